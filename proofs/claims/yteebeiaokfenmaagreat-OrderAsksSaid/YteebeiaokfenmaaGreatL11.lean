/- Contracts of functions, L11: each as its theorem says. -/
import Derived.Test.YteebeiaokfenmaaGreatL10
import Derived.Test.YteebeiaokfenmaaGreatL09
set_option linter.unusedVariables false
set_option linter.unusedSimpArgs false
set_option maxRecDepth 100000
set_option maxHeartbeats 16000000
namespace Go.Proofs.YteebeiaokfenmaaGreat
namespace KP
open Go.RowKit CP TP
open CM (Mg Cm)
open TM (Sp)
open KM (Wt Sk)
theorem flat_set1 {α : Type} {f : α → List Value} {s : Nat} {j : Nat} {u : Value} : ∀ {l : List α} {k : Nat} {a a' : α}, (∀ a, (f a).length = s) → l[k]? = some a → j < s → f a' = (f a).set j u → (flat f l).set (k * s + j) u = flat f (l.set k a')
 | [], k, a, a', _, h, _, _ => by simp at h
 | b :: l, 0, a, a', hf, h, hj, he => by
  simp at h; subst h
  rw [flat_cons, Nat.zero_mul, Nat.zero_add, List.set_append_left _ _ (by rw [hf]; exact hj), List.set_cons_zero, flat_cons, he]
 | b :: l, k + 1, a, a', hf, h, hj, he => by
  have ih := flat_set1 (l := l) (k := k) hf (by simpa using h) hj he
  rw [flat_cons, List.set_append_right _ _ (by rw [hf, Nat.add_mul]; omega), List.set_cons_succ, flat_cons, ← ih]
  congr 2
  rw [hf, Nat.add_mul]
  omega
section
variable {α : Type} {K : Kd α} {w : World} {b : Nat} {T : TypeId} {l : List α}
theorem KO.store {q n c k j : Nat} {x x' : α} {u : Value} (h : KO K w b T (.slice (some ⟨q, 0, none⟩) n c) l) (hk : l[k]? = some x) (hj : j < K.s) (hx : ∀ A d, K.cel A d x' = (K.cel A d x).set j u) (hg : K.gs x' = K.gs x) (hT : T ≠ 3) :
  KO K (w.setCell ⟨q, k * K.s + j, none⟩ u) b T (.slice (some ⟨q, 0, none⟩) n c) (l.set k x') ∧ Kept (fun e => e = T) w (w.setCell ⟨q, k * K.s + j, none⟩ u) ∧ Below b w (w.setCell ⟨q, k * K.s + j, none⟩ u) ∧ (w.setCell ⟨q, k * K.s + j, none⟩ u).heap.size = w.heap.size := by
 obtain ⟨es, rfl, h2, h3⟩ := h
 have hn : n = es.length := by
  obtain ⟨A', c', e, _⟩ := own_form h2
  injection e
 subst hn
 rw [List.getElem?_map] at hk
 rcases he : es[k]? with _ | e
 ·rw [he] at hk; cases hk
 rw [he] at hk
 injection hk with hk
 subst hk
 have hkl := (List.getElem?_eq_some_iff.1 he).1
 obtain ⟨hb, cur, hc⟩ := own_block h2 (show (Value.slice (some ⟨q, 0, none⟩) es.length c).ownBlock = some q from rfl)
 have hkp : Kept (fun e => e = T) w (w.setCell ⟨q, k * K.s + j, none⟩ u) := Kept.set (S := fun e => e = T) hc rfl u
 refine ⟨⟨es.set k ⟨e.A, e.c, x'⟩, by rw [List.map_set], ?_, fun e' he' => ?_⟩, hkp, (Below.refl _ _).setCell (p := ⟨q, k * K.s + j, none⟩) hb u, by simp⟩
 ·have h1 := (h2.stored (k * K.s + j) u).1
  rw [flat_set1 (f := exc K) (fun a => K.len _ _ _) he hj (show exc K ⟨e.A, e.c, x'⟩ = _ from hx e.A e.c)] at h1
  rw [List.length_set]
  exact h1
 ·have hi : ¬ (3 = T) := fun e => hT e.symm
  rcases List.mem_or_eq_of_mem_set he' with he' | rfl
  ·exact ⟨rowGe_kept hkp hi (h3 e' he').1, (h3 e' he').2⟩
  ·have := h3 e (List.mem_of_getElem? he)
   exact ⟨by rw [hg]; exact rowGe_kept hkp hi this.1, by rw [hg]; exact this.2⟩
theorem KO.cellAt {q n c k : Nat} {x : α} (h : KO K w b T (.slice (some ⟨q, 0, none⟩) n c) l) (hk : l[k]? = some x) : ∃ B d, (∀ j u, (K.cel B d x)[j]? = some u → w.cell? ⟨q, k * K.s + j, none⟩ = some u) ∧ (∀ i, w.frozen? ⟨q, i, none⟩ = false) ∧ RowGe w b B d (K.gs x) := by
 obtain ⟨hn, _, _, hg⟩ := h.slice
 obtain ⟨bl, o, B, d, e, _, _, hc, hr⟩ := hg.at_ hk
 injection e with e
 injection e with e1 e2
 subst e1 e2
 obtain ⟨es, _, h2, _⟩ := h
 obtain ⟨_, cur, hx⟩ := own_block h2 (show (Value.slice (some ⟨q, 0, none⟩) n c).ownBlock = some q from rfl)
 exact ⟨B, d, fun j u hu => by have := hc j u hu; rwa [Nat.zero_add] at this, hx.frozen, hr⟩
theorem KO.some {A : Option Addr} {n c k : Nat} {x : α} (h : KO K w b T (.slice A n c) l) (hk : l[k]? = some x) : ∃ q, A = some ⟨q, 0, none⟩ := by
 obtain ⟨es, rfl, h2, _⟩ := h
 have hn : n = es.length := by
  obtain ⟨A', c', e, _⟩ := own_form h2
  injection e
 subst hn
 have hkl := (List.getElem?_eq_some_iff.1 hk).1
 rw [List.length_map] at hkl
 obtain ⟨q, e, _⟩ := own_some h2 (by omega)
 exact ⟨q, e⟩
end
def isS (e : TypeId) : Prop := e = 78 ∨ e = 46 ∨ e = 39
theorem isS_int : ¬ isS 3 := by unfold isS; decide
theorem isS_msg : ¬ isS 33 := by unfold isS; decide
def isT (e : TypeId) : Prop := e = 78 ∨ e = 46 ∨ e = 33
theorem isT_skeen : ¬ isT 39 := by unfold isT; decide
structure PtS (w1 : World) (b p3 p5 p6 : Nat) (Cc : Array Value) (c : Int) (vW vD : Value) (ws : List Wt) (ds : List Sp) (W : World) : Prop where
 bl : Below b w1 W
 ord : p3 ≠ p6 ∧ b ≤ p3 ∧ b ≤ p6 ∧ b ≤ W.heap.size
 bx : Box W p3 39 #[.int .i64 c, vW, vD]
 ow : KO KW W b 78 vW ws
 od : W.ownsRow b 46 2 vD ds.length (flat spc ds)
 bc : Box W p5 91 Cc
 br : Box W p6 39 #[.int .i64 0, .slice none 0 0, .slice none 0 0]
 kp : ∀ g e cs, g < p3 → ¬ isT e → Box w1 g e cs → Box W g e cs
 lt : p3 < p6
section
variable {w1 W W' : World} {b p3 p5 p6 : Nat} {Cc : Array Value} {c : Int} {vW vD : Value} {ws : List Wt} {ds : List Sp}
theorem PtS.below (h : PtS w1 b p3 p5 p6 Cc c vW vD ws ds W) (hb : Below W.heap.size W W') : PtS w1 b p3 p5 p6 Cc c vW vD ws ds W' :=
 ⟨h.bl.trans (hb.mono h.ord.2.2.2), ⟨h.ord.1, h.ord.2.1, h.ord.2.2.1, Nat.le_trans h.ord.2.2.2 hb.size⟩, h.bx.below hb h.bx.lt, h.ow.below hb, own_below3 h.od hb, h.bc.below hb h.bc.lt, h.br.below hb h.br.lt, fun g e cs hg he hx => (h.kp g e cs hg he hx).below hb (h.kp g e cs hg he hx).lt, h.lt⟩
theorem PtS.kept {S : TypeId → Prop} (h : PtS w1 b p3 p5 p6 Cc c vW vD ws ds W) (hk : Kept S W W') (hb : Below b W W') (s1 : ¬ S 39) (s2 : ¬ S 78) (s3 : ¬ S 46) (s4 : ¬ S 91) (s5 : ¬ S 3) (s6 : ∀ e, S e → isT e) : PtS w1 b p3 p5 p6 Cc c vW vD ws ds W' :=
 ⟨h.bl.trans hb, ⟨h.ord.1, h.ord.2.1, h.ord.2.2.1, Nat.le_trans h.ord.2.2.2 hb.size⟩, hk.box _ _ _ s1 h.bx, KO.kept hk s5 s2 h.ow, hk.own h.od s3, hk.box _ _ _ s4 h.bc, hk.box _ _ _ s1 h.br, fun g e cs hg he hx => hk.box _ _ _ (fun hs => he (s6 e hs)) (h.kp g e cs hg he hx), h.lt⟩
theorem PtS.setC (h : PtS w1 b p3 p5 p6 Cc c vW vD ws ds W) (x : Int) : PtS w1 b p3 p5 p6 Cc x vW vD ws ds (W.setCell ⟨p3, 0, none⟩ (.int .i64 x)) ∧ Kept isS W (W.setCell ⟨p3, 0, none⟩ (.int .i64 x)) := by
 have hk : Kept (fun e => e = 39) W (W.setCell ⟨p3, 0, none⟩ (.int .i64 x)) := Kept.set (S := fun e => e = 39) h.bx rfl _
 exact ⟨⟨h.bl.setCell (p := ⟨p3, 0, none⟩) h.ord.2.1 _, ⟨h.ord.1, h.ord.2.1, h.ord.2.2.1, by have := h.ord.2.2.2; simpa using this⟩, by have := h.bx.stored 0 (.int .i64 x); simpa using this, KO.kept hk (by decide) (by decide) h.ow, hk.own h.od (by decide), hk.box _ _ _ (by decide) h.bc, h.br.far (p := ⟨p3, 0, none⟩) (by exact fun e => h.ord.1 e.symm) _, fun g e cs hg he hx => (h.kp g e cs hg he hx).far (p := ⟨p3, 0, none⟩) (Nat.ne_of_lt hg) _, h.lt⟩,
  hk.mono fun e he => .inr (.inr he)⟩
theorem PtS.setW (h : PtS w1 b p3 p5 p6 Cc c vW vD ws ds W) {v2 : Value} {l : List Wt} (h2 : KO KW W b 78 v2 l) : PtS w1 b p3 p5 p6 Cc c v2 vD l ds (W.setCell ⟨p3, 1, none⟩ v2) ∧ Kept isS W (W.setCell ⟨p3, 1, none⟩ v2) := by
 have hk : Kept (fun e => e = 39) W (W.setCell ⟨p3, 1, none⟩ v2) := Kept.set (S := fun e => e = 39) h.bx rfl _
 exact ⟨⟨h.bl.setCell (p := ⟨p3, 1, none⟩) h.ord.2.1 _, ⟨h.ord.1, h.ord.2.1, h.ord.2.2.1, by have := h.ord.2.2.2; simpa using this⟩, by have := h.bx.stored 1 v2; simpa using this, KO.kept hk (by decide) (by decide) h2, hk.own h.od (by decide), hk.box _ _ _ (by decide) h.bc, h.br.far (p := ⟨p3, 1, none⟩) (by exact fun e => h.ord.1 e.symm) _, fun g e cs hg he hx => (h.kp g e cs hg he hx).far (p := ⟨p3, 1, none⟩) (Nat.ne_of_lt hg) _, h.lt⟩,
  hk.mono fun e he => .inr (.inr he)⟩
theorem PtS.addD (h : PtS w1 b p3 p5 p6 Cc c vW vD ws ds W) {Wa : World} (hb : Below W.heap.size W Wa) {v2 : Value} {x : Sp} (hg : Wa.grownBy W' vD.ownBlock) (ho : W'.ownsRow b 46 2 v2 (ds.length + 1) (flat spc ds ++ spc x)) :
  PtS w1 b p3 p5 p6 Cc c vW v2 ws (ds ++ [x]) (W'.setCell ⟨p3, 2, none⟩ v2) ∧ Kept isS W (W'.setCell ⟨p3, 2, none⟩ v2) := by
 have ha := h.below hb
 have hk1 : Kept (fun e => e = 46) Wa W' := Kept.grown (S := fun e => e = 46) ha.od rfl hg
 have hB : Below b Wa W' := Below.grown (Below.refl b Wa) hg ha.ord.2.2.2 fun g e => (own_block ha.od e).1
 have hx := hk1.box _ _ _ (by decide) ha.bx
 have hk2 : Kept (fun e => e = 39) W' (W'.setCell ⟨p3, 2, none⟩ v2) := Kept.set (S := fun e => e = 39) hx rfl _
 refine ⟨⟨(ha.bl.trans hB).setCell (p := ⟨p3, 2, none⟩) h.ord.2.1 _, ⟨h.ord.1, h.ord.2.1, h.ord.2.2.1, ?_⟩, by have := hx.stored 2 v2; simpa using this, KO.kept hk2 (by decide) (by decide) (KO.kept hk1 (by decide) (by decide) ha.ow), ?_, hk2.box _ _ _ (by decide) (hk1.box _ _ _ (by decide) ha.bc), ?_, fun g e cs hg he hx => (hk1.box _ _ _ (fun (q : e = 46) => he (.inr (.inl q))) (ha.kp g e cs hg he hx)).far (p := ⟨p3, 2, none⟩) (Nat.ne_of_lt hg) _, h.lt⟩, ?_⟩
 ·have h1 := ha.ord.2.2.2
  have h2 := hB.size
  have : (W'.setCell ⟨p3, 2, none⟩ v2).heap.size = W'.heap.size := by simp
  omega
 ·rw [flat_append, flat_one, List.length_append]
  exact hk2.own ho (by decide)
 ·exact (hk1.box _ _ _ (by decide) ha.br).far (p := ⟨p3, 2, none⟩) (by exact fun e => h.ord.1 e.symm) _
 ·exact ((Kept.of_below hb).trans (hk1.mono fun e he => .inr (.inl he))).trans (hk2.mono fun e he => .inr (.inr he))
theorem PtS.storeW {q n d k j : Nat} {x x' : Wt} {u : Value} (h : PtS w1 b p3 p5 p6 Cc c (.slice (some ⟨q, 0, none⟩) n d) vD ws ds W) (hk : ws[k]? = some x) (hj : j < 7) (hx : ∀ A d, KW.cel A d x' = (KW.cel A d x).set j u) (hg : x'.m.gs = x.m.gs) :
  PtS w1 b p3 p5 p6 Cc c (.slice (some ⟨q, 0, none⟩) n d) vD (ws.set k x') ds (W.setCell ⟨q, k * 7 + j, none⟩ u) ∧ Kept isS W (W.setCell ⟨q, k * 7 + j, none⟩ u) := by
 obtain ⟨h1, h2, h3, h4⟩ := h.ow.store hk hj hx hg (by decide)
 exact ⟨⟨h.bl.trans h3, ⟨h.ord.1, h.ord.2.1, h.ord.2.2.1, by have := h.ord.2.2.2; have e : (W.setCell ⟨q, k * 7 + j, none⟩ u).heap.size = W.heap.size := h4; omega⟩, h2.box _ _ _ (by decide) h.bx, h1, h2.own h.od (by decide), h2.box _ _ _ (by decide) h.bc, h2.box _ _ _ (by decide) h.br, fun g e cs hg he hx => h2.box _ _ _ (fun (q : e = 78) => he (.inl q)) (h.kp g e cs hg he hx), h.lt⟩, h2.mono fun e he => .inl he⟩
end
section
variable {α : Type} {K : Kd α} {w w' : World} {b n c : Nat} {A : Option Addr} {l : List α} {T : TypeId} {v : Value}
theorem kO_nexts {v2 : Value} (es es2 : List (Ex α)) (hl : es.map Ex.x = l) (hr : ∀ e ∈ es, RowGe w b e.A e.c (K.gs e.x) ∧ ∀ ad, e.A = some ad → 0 < (K.gs e.x).length → v.ownBlock ≠ some ad.block)
  (hr2 : ∀ e ∈ es2, RowGe w b e.A e.c (K.gs e.x) ∧ ∀ ad, e.A = some ad → 0 < (K.gs e.x).length → v.ownBlock ≠ some ad.block)
  (hg : w.grownBy w' v.ownBlock) (ho : w'.ownsRow b T K.s v2 (es.length + es2.length) (flat (exc K) es ++ flat (exc K) es2)) (hob : v2.ownBlock = v.ownBlock ∨ v2.ownBlock = some w.heap.size) : KO K w' b T v2 (l ++ es2.map Ex.x) := by
 refine ⟨es ++ es2, by simp [hl], by rw [flat_append, List.length_append]; exact ho, fun e he => ?_⟩
 have hfin : ∀ ad : Addr, ad.block < w.heap.size → v.ownBlock ≠ some ad.block → v2.ownBlock ≠ some ad.block := fun ad hlt hne => by
  rcases hob with k | k
  ·rw [k]; exact hne
  ·rw [k]; intro q; injection q with q; omega
 have key : ∀ e : Ex α, (RowGe w b e.A e.c (K.gs e.x) ∧ ∀ ad, e.A = some ad → 0 < (K.gs e.x).length → v.ownBlock ≠ some ad.block) → RowGe w' b e.A e.c (K.gs e.x) ∧ ∀ ad, e.A = some ad → 0 < (K.gs e.x).length → v2.ownBlock ≠ some ad.block := fun e ⟨g1, g2⟩ =>
  ⟨rowGe_grown g1 hg g2, fun ad e1 hn => hfin ad (row_lt g1.1 e1 hn) (g2 ad e1 hn)⟩
 rcases List.mem_append.1 he with he | he
 ·exact key e (hr e he)
 ·exact key e (hr2 e he)
theorem wpList_append_kos {P : Program} {ops : Array Oper} {rest : List Oper} {o : Oper} {a : Act} {Q : Exit → Act → World → Prop} {w2 : World} {b2 : Nat} {T2 : TypeId} {A9 : Option Addr} {n9 c9 : Nat} {A2 : Option Addr} {m2 c2 : Nat} {l2 : List α}
  (hgd : o.guard = none) (so xo : Operand) (t : TypeId) (ho : o.op = .call { callee := .builtin .append, args := #[so, xo], argTypes := #[t, t] })
  (i : TypeInfo) (z : Value) (bytes : Nat) (ht : P.underlying t = some (.slice T)) (hi : P.info? T = some i) (hz : i.zero = some z) (hsize : i.size = K.s) (hby : i.bytes = bytes) (hzs : z.cells.size = K.s)
  (hs : a.eval so = .slice A9 n9 c9) (hko : KO K w b T (.slice A9 n9 c9) l) (hx : a.eval xo = .slice A2 m2 c2) (hko2 : KO K w2 b2 T2 (.slice A2 m2 c2) l2) (hb2 : b ≤ b2) (hw2 : Below w2.heap.size w2 w)
  (hne : ∀ g, (Value.slice A9 n9 c9).ownBlock = some g → g < b2 ∨ w2.heap.size ≤ g) (h63 : n9 + m2 ≤ maxLen) (hbytes : (n9 + m2) * bytes ≤ 140737488355328) (hb : b ≤ w.heap.size)
  (h : ∀ A' c' w', KO K w' b T (.slice A' (n9 + m2) c') (l ++ l2) → w.grownBy w' (Value.slice A9 n9 c9).ownBlock →
   ((Value.slice A' (n9 + m2) c').ownBlock = (Value.slice A9 n9 c9).ownBlock ∨ (Value.slice A' (n9 + m2) c').ownBlock = some w.heap.size) → wpList P ops Q rest (a.put o.dst (.slice A' (n9 + m2) c')) w') :
  wpList P ops Q (o :: rest) a w := by
 obtain ⟨es, hl, ho1, hr⟩ := hko
 have hn : n9 = es.length := by
  obtain ⟨A', c', e, _⟩ := own_form ho1
  injection e
 rw [← hn] at ho1
 obtain ⟨es2, hl2, ho2, hr2⟩ := hko2
 have hm : m2 = es2.length := by
  obtain ⟨A', c', e, _⟩ := own_form ho2
  injection e
 rw [← hm] at ho2
 refine wpList_append_g _ hgd so xo t ho b T i z K.s bytes ht hi hz hsize hby hzs K.pos (.slice A9 n9 c9) n9 (flat (exc K) es) hs ho1 A2 m2 c2 (flat (exc K) es2) hx ((rdg_own ho2).below hw2) (exc_one K es2) h63 hbytes hb ?_
 intro v' w' hown hgr hob
 obtain ⟨A', c', rfl, _, _⟩ := own_form hown
 refine h A' c' w' ?_ hgr hob
 rw [← hl2]
 refine kO_nexts es es2 hl hr (fun e he => ⟨((hr2 e he).1.mono hb2).below hw2, fun ad e1 hn q => ?_⟩) hgr (by rw [← hn, ← hm]; exact hown) hob
 have k1 := row_lt (hr2 e he).1.1 e1 hn
 have k2 := (hr2 e he).1.2 ad e1 hn
 have := hne _ q
 omega
end
def TwMid (w1 : World) (c : Int) (ds : List Sp) (u : Value) (wx : World) : Prop :=
 ∃ p vd, u = .pointer (some ⟨p, 0, none⟩) ∧ w1.heap.size ≤ p ∧ Box wx p 39 #[.int .i64 c, .slice none 0 0, vd] ∧ wx.ownsRow w1.heap.size 46 2 vd ds.length (flat spc ds) ∧ Below w1.heap.size w1 wx
theorem rtwin15_any (v : Value) (s : Sk) (w : World) (h : SkIs w v s) (hf1 : s.ws.length ≤ 4096) (hf2 : s.ds.length ≤ 4096) (hf3 : ∀ x ∈ s.ws, x.m.gs.length ≤ 17592186044416) : Calls Tryz.prog 98 #[v] w (SkNew s w) := by
 obtain ⟨A, c, B, d, rfl, r1, d1⟩ := h
 obtain ⟨i0, hi, hz0, hz1, hz2⟩ := info_parts info_sp
 obtain ⟨j0, hj, hy0, hy1, hy2⟩ := info_parts info_wt
 obtain ⟨sc, ws, ds⟩ := s
 simp only at r1 d1 hf1 hf2 hf3
 obtain ⟨n, hna⟩ : ∃ n, n = ws.length := ⟨_, rfl⟩
 obtain ⟨m, hmb⟩ : ∃ m, m = ds.length := ⟨_, rfl⟩
 unfold vsk
 simp only
 rw [← hna] at r1 hf1 ⊢
 rw [← hmb] at d1 hf2 ⊢
 have HLA := h! hna
 have HLB := h! hmb
 have HGS := h! hf3
 clear hna hmb hf3
 have H := h! (fun W (hb : Below w.heap.size w W) => r1.below hb)
 have HD := h! (fun W (hb : Below w.heap.size w W) => d1.below hb)
 have HB := h! (show Below w.heap.size w ((w.alloc (.cells #[.int .i64 sc, .slice A n c, .slice B m d] 39)).alloc (.cells #[.int .i64 0, .slice none 0 0, .slice none 0 0] 39)) from ((Below.refl _ _).alloc n! _).alloc (by simp) _)
 have X := h! ((Box.new w 39 #[.int .i64 sc, .slice A n c, .slice B m d]).alloc (.cells #[.int .i64 0, .slice none 0 0, .slice none 0 0] 39))
 have Y := h! (Box.new_at (w := w.alloc (.cells #[.int .i64 sc, .slice A n c, .slice B m d] 39)) (t := 39) (cs := #[.int .i64 0, .slice none 0 0, .slice none 0 0]) (w.heap.size + 1) (by simp))
 clear r1 d1
 go_enter Tryz.func98, Tryz.ntmps98
 go_upto_region 1 with (fail)
 generalize (w.alloc (.cells #[.int .i64 sc, .slice A n c, .slice B m d] 39)).alloc (.cells #[.int .i64 0, .slice none 0 0, .slice none 0 0] 39) = w1 at HB X Y ⊢
 have HG1 := h! (show w.heap.size + 1 < w1.heap.size from Y.out.lt)
 go_cut [3] (fun u wx => TwMid w1 sc ds u wx)
 case first =>
  obtain ⟨x0, x1, x2⟩ := box_sk X.out
  have HSS := h! (fun (w' : World) (h : Below w1.heap.size w1 w') => show w'.cell? ⟨w.heap.size, 0, none⟩ = some (.int .i64 sc) ∧ w'.cell? ⟨w.heap.size, 2, none⟩ = some (.slice B m d) from ⟨(h.cell (cell_block x0)).trans x0, (h.cell (cell_block x2)).trans x2⟩)
  have bb1 : Below w1.heap.size w1 w1.drew := (Below.refl _ _).drew
  obtain ⟨ud, hud⟩ : ∃ ud, ud = w1.drew := ⟨_, rfl⟩
  have hsz : w1.heap.size = ud.heap.size := by rw [hud]; rfl
  refine wp_region_held_drew (S := fun w' => w'.cell? ⟨w.heap.size, 0, none⟩ = some (.int .i64 sc) ∧ w'.cell? ⟨w.heap.size, 2, none⟩ = some (.slice B m d)) (by kernel_rfl) (HSS.out _ bb1) (fun hHeld => ?_)
  rw [← hud] at bb1 hHeld ⊢
  clear hud x0 x1 x2
  have HSZ := h! hsz
  clear hsz
  refine qT 0 ?_; try simp only [Act.put, qq]
  refine qT 1 ?_; try simp only [Act.put, qq]
  refine qT 2 ?_; try simp only [Act.put, qq]
  refine qT 3 ?_; try simp only [Act.put, qq]
  refine wpAnyH_ready (rs := [4, 6]) (by kernel_rfl) (by simp) ?_
  refine AllReadyH.cons rfl (fun K hK => ?_) (AllReadyH.cons rfl (fun K hK => ?_) AllReadyH.nil)
  ·refine step_append_h rfl (.const (.slice none 0 0)) (.tmp 9) 22 rfl ud.heap.size 46 i0 _ 2 16 Tryz.underlying22 hi hz0 hz1 hz2 rfl (by omega) (.slice none 0 0) 0 [] (by simp [Act.eval, Act.put]) (World.ownsRow_nil _ _ _ _) B m d (flat spc ds) (by simp [Act.eval, Act.put]) (HD.out _ (bmore HB.out bb1 n!)).1 (flat_spc_one _) (by unfold maxLen; omega) (by omega) n! ?_
   intro va ub oa ga hob
   simp only [Nat.zero_add, List.nil_append] at oa
   obtain ⟨A5, c5, rfl, _, _⟩ := own_form oa
   have hb : Below ud.heap.size ud ub := below_of_grown ga (by intro g h; cases h)
   have O0 := h! (own_base oa (show w1.heap.size ≤ ud.heap.size from bb1.size))
   have bbA := bmore bb1 hb n!
   clear oa ga hob
   refine hK.out _ _ (HSS.out _ bbA) (fun hHeld => ?_)
   clear hK
   try simp only [Act.put, qq]
   refine qT 5 ?_; try simp only [Act.put, qq]
   refine qR 6 fun K hK => ?_
   go_simp
   have hb2 : Below ub.heap.size ub (ub.alloc (.cells #[.int .i64 0, .slice none 0 0, .slice none 0 0] 39)) := b!
   have bbB := bmore bbA hb2 n!
   have BP := h! (Box.new ub 39 #[.int .i64 0, .slice none 0 0, .slice none 0 0])
   have O1 := h! (own_below3 O0.out hb2)
   refine hK.out _ _ (HSS.out _ bbB) (fun hHeld => ?_)
   clear hK
   try simp only [Act.put, qq]
   have hpu : w1.heap.size ≤ ub.heap.size := bbA.size
   clear hb hb2 bbA O0
   generalize ub.alloc (.cells #[.int .i64 0, .slice none 0 0, .slice none 0 0] 39) = W2 at bbB BP O1 hHeld ⊢
   generalize ub.heap.size = p9 at BP hpu ⊢
   have hp1 : w1.heap.size ≤ p9 := by have := HSZ.out; omega
   obtain ⟨e0, e1, e2, f0, f1, f2⟩ := BP.out.three
   refine qR 7 fun K hK => ?_
   go_simp
   refine hK.out _ _ (HSS.out _ (below_put3 bbB hp1 _ _ _)) (fun hHeld => ?_)
   clear hK
   try simp only [Act.put, qq]
   refine wpAnyH_done (by kernel_rfl) ?_ _
   go_wp2_with fail
   go_meet
   case rel => exact ⟨p9, _, rfl, hp1, Box.put3 BP.out _ _ _, (by rw [← HLB.out]; exact Kept.own (kept_put3 BP.out _ _ _) O1.out (by decide)), below_put3 bbB hp1 _ _ _⟩
  ·go_simp
   have hb2 : Below ud.heap.size ud (ud.alloc (.cells #[.int .i64 0, .slice none 0 0, .slice none 0 0] 39)) := b!
   have bbB := bmore bb1 hb2 n!
   have BP := h! (Box.new ud 39 #[.int .i64 0, .slice none 0 0, .slice none 0 0])
   refine hK.out _ _ (HSS.out _ bbB) (fun hHeld => ?_)
   clear hK
   try simp only [Act.put, qq]
   have hpu : w1.heap.size ≤ ud.heap.size := bb1.size
   clear hb2
   generalize ud.alloc (.cells #[.int .i64 0, .slice none 0 0, .slice none 0 0] 39) = W2 at bbB BP hHeld ⊢
   generalize ud.heap.size = p9 at BP hpu ⊢
   refine qR 4 fun K hK => ?_
   refine step_append_h rfl (.const (.slice none 0 0)) (.tmp 9) 22 rfl W2.heap.size 46 i0 _ 2 16 Tryz.underlying22 hi hz0 hz1 hz2 rfl (by omega) (.slice none 0 0) 0 [] (by simp [Act.eval, Act.put]) (World.ownsRow_nil _ _ _ _) B m d (flat spc ds) (by simp [Act.eval, Act.put]) (HD.out _ (bmore HB.out bbB n!)).1 (flat_spc_one _) (by unfold maxLen; omega) (by omega) n! ?_
   intro va ub oa ga hob
   simp only [Nat.zero_add, List.nil_append] at oa
   obtain ⟨A5, c5, rfl, _, _⟩ := own_form oa
   have hb : Below W2.heap.size W2 ub := below_of_grown ga (by intro g h; cases h)
   have O0 := h! (own_base oa (show w1.heap.size ≤ W2.heap.size from bbB.size))
   have bbA := bmore bbB hb n!
   clear oa ga hob
   refine hK.out _ _ (HSS.out _ bbA) (fun hHeld => ?_)
   clear hK
   try simp only [Act.put, qq]
   replace BP := h! (BP.out.below hb BP.out.lt)
   clear hb bbB
   refine qT 5 ?_; try simp only [Act.put, qq]
   have hp1 : w1.heap.size ≤ p9 := by have := HSZ.out; omega
   obtain ⟨e0, e1, e2, f0, f1, f2⟩ := BP.out.three
   refine qR 7 fun K hK => ?_
   go_simp
   refine hK.out _ _ (HSS.out _ (below_put3 bbA hp1 _ _ _)) (fun hHeld => ?_)
   clear hK
   try simp only [Act.put, qq]
   refine wpAnyH_done (by kernel_rfl) ?_ _
   go_wp2_with fail
   go_meet
   case rel => exact ⟨p9, _, rfl, hp1, Box.put3 BP.out _ _ _, (by rw [← HLB.out]; exact Kept.own (kept_put3 BP.out _ _ _) O0.out (by decide)), below_put3 bbA hp1 _ _ _⟩
 case rest =>
  obtain ⟨p, vd, rfl, hp1, hbp, hdn, hb⟩ := hcut
  rename_i wc
  have hlt := hbp.lt
  obtain ⟨vD, cD, rfl, hd1, hd2⟩ : ∃ B c, vd = .slice B ds.length c ∧ ds.length ≤ c ∧ c ≤ maxLen := own_form hdn
  have HT := h! (show TwR w1 p wc.heap.size sc (.slice vD ds.length cD) ds [] wc from ⟨hb, ⟨hp1, hlt, Nat.le_refl _⟩, ⟨_, hbp, kO_nil KW _ _ _⟩, hdn⟩)
  have HSZ := h! (show w1.heap.size ≤ wc.heap.size from hb.size)
  clear hp1 hbp hdn hb hlt
  generalize wc.heap.size = b2 at HT HSZ ⊢
  go_wp2_with fail
  go_loopw [4] (fun i wr => ∃ k : Nat, k ≤ n ∧ i = .int .i64 k ∧ TwR w1 p b2 sc (.slice vD ds.length cD) ds (ws.take k) wr) (fun i _ => n - (intOf i).toNat)
  case atStart => exact ⟨0, by omega, rfl, by simpa using HT.out⟩
  case round =>
   clear HT
   obtain ⟨k, hk, rfl, hT⟩ := hrel
   have HTR := h! hT
   obtain ⟨x0, x1, x2⟩ := box_sk (X.out.below hT.bl (by have := HG1.out; omega))
   have HBW := h! (bmore HB.out hT.bl n!)
   clear hT
   by_cases hlt : k < n
   ·obtain ⟨x, hx⟩ : ∃ x, ws[k]? = some x := ⟨_, List.getElem?_eq_getElem (by have := HLA.out; omega)⟩
    have HXx := h! hx
    obtain ⟨bl, o, P, q, rfl, _, _, hat, hrr⟩ := wts_at (H.out _ HBW.out) hx
    have hgs := HGS.out x (List.mem_of_getElem? hx)
    obtain ⟨a0, a1, a2, a3, a4, a5, a6⟩ := hat
    clear hx
    have hk0 : (0 : Int) ≤ (k : Int) := by omega
    have hkn : (k : Int) < (n : Int) := by omega
    have CT := h! (fun W (hb : Below wr.heap.size wr W) => rtwinMessage_any x.m _ W ⟨P, q, rfl, hrr.below hb⟩ hgs)
    clear hrr hgs
    obtain ⟨⟨xi, xg, xt, xk, xb⟩, xm, xf⟩ := x
    unfold mcells at CT
    simp only at a0 a1 a2 a3 a4 a5 a6 CT
    go_upto_region 6 with (fail)
    clear a0 a1 a2 a3 a4 a5 a6 x0 x1 x2
    have hb3 : Below wr.heap.size wr (wr.alloc (.cells #[.int .i64 xi, .slice P xg.length q, .int .i64 xt, .string xk, .string xb, .int .i64 xm, .bool xf] 78)) := b!
    have HV := h! (Box.new wr 78 #[.int .i64 xi, .slice P xg.length q, .int .i64 xt, .string xk, .string xb, .int .i64 xm, .bool xf])
    have HB3 := h! hb3
    have HP5 := h! (show wr.heap.size < (wr.alloc (.cells #[.int .i64 xi, .slice P xg.length q, .int .i64 xt, .string xk, .string xb, .int .i64 xm, .bool xf] 78)).heap.size by simp)
    clear hb3
    generalize wr.alloc (.cells #[.int .i64 xi, .slice P xg.length q, .int .i64 xt, .string xk, .string xb, .int .i64 xm, .bool xf] 78) = w3 at HV HB3 HP5 ⊢
    obtain ⟨p5, hp5⟩ : ∃ p5, wr.heap.size = p5 := ⟨_, rfl⟩
    rw [hp5] at HV HP5
    simp only [hp5]
    have HE5 := h! hp5
    clear hp5
    obtain ⟨⟨z0, z1, z2, z3, z4, z5, z6⟩, f0, f1, f2, f3, f4, f5, f6⟩ := box_wtf HV.out
    go_wp2_with fail
    refine (CT.out w3 HB3.out).mono ?_
    rintro e w4 ⟨A6, c6, rfl, hg, hb⟩
    unfold mcells
    simp only at hg
    clear z0 z1 z2 z3 z4 z5 z6 f0 f1 f2 f3 f4 f5 f6
    replace HV := h! (HV.out.below hb HV.out.lt)
    have HG := h! hg
    have HB4 := h! (bmore HB3.out hb n!)
    have HP6 := h! (show p5 < w4.heap.size from Nat.lt_of_lt_of_le HP5.out hb.size)
    clear hg hb CT
    obtain ⟨⟨z0, z1, z2, z3, z4, z5, z6⟩, f0, f1, f2, f3, f4, f5, f6⟩ := box_wtf HV.out
    go_upto_region 7 with (fail)
    clear z0 z1 z2 z3 z4 z5 z6 f0 f1 f2 f3 f4 f5 f6
    have HV5 := h! (show Box (pt5 w4 p5 (.int .i64 xi) (.slice A6 xg.length c6) (.int .i64 xt) (.string xk) (.string xb)) p5 78 #[.int .i64 xi, .slice A6 xg.length c6, .int .i64 xt, .string xk, .string xb, .int .i64 xm, .bool xf] by
     have := ((((HV.out.stored 0 (.int .i64 xi)).stored 1 (.slice A6 xg.length c6)).stored 2 (.int .i64 xt)).stored 3 (.string xk)).stored 4 (.string xb)
     simpa [pt5] using this)
    have HB5 := h! (pt5_below HB4.out (g := p5) (by have := HE5.out; omega) (.int .i64 xi) (.slice A6 xg.length c6) (.int .i64 xt) (.string xk) (.string xb))
    have HG5 := h! ((RowGe.setB HG.out (g := p5) HP5.out (.int .i64 xi) (.slice A6 xg.length c6) (.int .i64 xt) (.string xk) (.string xb)).mono HB3.out.size)
    unfold pt5 at HV5 HB5 HG5
    clear HV HB4 HG
    generalize ((((w4.setCell ⟨p5, 0, none⟩ (.int .i64 xi)).setCell ⟨p5, 1, none⟩ (.slice A6 xg.length c6)).setCell ⟨p5, 2, none⟩ (.int .i64 xt)).setCell ⟨p5, 3, none⟩ (.string xk)).setCell ⟨p5, 4, none⟩ (.string xb) = w5 at HV5 HB5 HG5 ⊢
    obtain ⟨vW, hbp, es, hes, hown, hrs⟩ := HTR.out.bp
    have hel : es.length = k := by
     have := congrArg List.length hes
     rw [List.length_map, List.length_take] at this
     have := HLA.out
     omega
    rw [hel] at hown
    have HEL := h! hel
    clear hel
    obtain ⟨A9, c9, rfl, hc9, hm9⟩ := own_form hown
    have HBP := h! hbp
    have HES := h! hes
    have HOW := h! hown
    have HRS := h! hrs
    have HO5 := h! (own_below3 (own_below3 hown HB5.out) ((Below.refl _ _).alloc n! (.cells #[.int .i64 xi, .slice A6 xg.length c6, .int .i64 xt, .string xk, .string xb, .int .i64 xm, .bool xf] 78)))
    have HBA := h! (show Below wr.heap.size wr (w5.alloc (.cells #[.int .i64 xi, .slice A6 xg.length c6, .int .i64 xt, .string xk, .string xb, .int .i64 xm, .bool xf] 78)) from bmore HB5.out ((Below.refl _ _).alloc n! _) n!)
    have HGA := h! (HG5.out.below ((Below.refl _ _).alloc n! (.cells #[.int .i64 xi, .slice A6 xg.length c6, .int .i64 xt, .string xk, .string xb, .int .i64 xm, .bool xf] 78)))
    have HRG := h! (rdG_box (s := 7) (n := 1) (Box.new w5 78 #[.int .i64 xi, .slice A6 xg.length c6, .int .i64 xt, .string xk, .string xb, .int .i64 xm, .bool xf]) (xs := KW.cel A6 c6 ⟨⟨xi, xg, xt, xk, xb⟩, xm, xf⟩) rfl rfl)
    have hbp5 := hbp.below HB5.out hbp.lt
    obtain ⟨y0, y1, y2⟩ := box_sk hbp5
    obtain ⟨z0, z1, z2, z3, z4, z5, z6⟩ := box_wt HV5.out
    clear hbp hes hown hrs hbp5
    go_wp2_with (at_builtin; refine wpList_append_g _ rfl _ _ 37 rfl b2 78 j0 _ 7 88 Tryz.underlying37 hj hy0 hy1 hy2 rfl (by omega) (.slice A9 k c9) k (flat (exc KW) es) rfl HO5.out (some ⟨w5.heap.size, 0, none⟩) 1 1 (KW.cel A6 c6 ⟨⟨xi, xg, xt, xk, xb⟩, xm, xf⟩) rfl HRG.out (KW.one _ _ _) (by unfold maxLen; omega) (by omega) (Nat.le_trans HTR.out.ok.2.2 HBA.out.size) ?_; intro v2 w6 hown hgr hob; have HOB := h! hob; have HGR := h! hgr; have HO6 := h! hown; have hb6 := (HBP.out.below HBA.out HBP.out.lt).grown hgr (own_ne HO5.out (HBP.out.below HBA.out HBP.out.lt) (by decide)); have s1 := hb6.cell 1; have s2 := hb6.frozen 1; simp at s1; obtain ⟨A7, c7, rfl, _, _⟩ := own_form hown; clear hown hgr hob hb6)
    have HN := h! (show TwR w1 p b2 sc (.slice vD ds.length cD) ds (ws.take (k + 1)) (w6.setCell ⟨p, 1, none⟩ (.slice A7 (k + 1) c7)) by
     rw [List.take_add_one, HXx.out]
     exact twR_next HTR.out HBP.out (x := ⟨⟨xi, xg, xt, xk, xb⟩, xm, xf⟩) es HEL.out HES.out HOW.out HRS.out HBA.out HGA.out HGR.out HO6.out HOB.out)
    go_roundw
    case rel => exact ⟨k + 1, by omega, by go_num, HN.out⟩
    case measure => simp [intOf]; omega
   ·obtain ⟨vW, hbp, hko⟩ := HTR.out.bp
    have hko2 : KO KW wr b2 78 vW ws := by
     have := hko
     rwa [List.take_of_length_le (by have := HLA.out; omega)] at this
    obtain ⟨A9, c9, rfl, _⟩ := hko2.g
    have HKO := h! hko2
    have HBP := h! hbp
    obtain ⟨e0, e1, e2⟩ := box_sk hbp
    have hy9 := Y.out.below HTR.out.bl HG1.out
    obtain ⟨q0, q1, q2, q3, q4, q5⟩ := hy9.three
    have HZ := h! (Box.put3 hy9 (.int .i64 sc) (.slice A9 ws.length c9) (.slice vD ds.length cD))
    have HZB := h! (below_put3 HBW.out (g := w.heap.size + 1) (by omega) (.int .i64 sc) (.slice A9 ws.length c9) (.slice vD ds.length cD))
    have hlb : w.heap.size + 1 < b2 := Nat.lt_of_lt_of_le HG1.out HSZ.out
    have HZO := h! (((HKO.out.set (i := 0) hlb (.int .i64 sc)).set (i := 1) hlb (.slice A9 ws.length c9)).set (i := 2) hlb (.slice vD ds.length cD) |>.mono (show w.heap.size ≤ b2 by omega))
    have HZD := h! (own_base (base' := w.heap.size) (ownsRow_setCell_below (ownsRow_setCell_below (ownsRow_setCell_below HTR.out.dn (a := ⟨w.heap.size + 1, 0, none⟩) HG1.out (.int .i64 sc)) (a := ⟨w.heap.size + 1, 1, none⟩) HG1.out (.slice A9 ws.length c9)) (a := ⟨w.heap.size + 1, 2, none⟩) HG1.out (.slice vD ds.length cD)) (by have := HG1.out; omega))
    clear hko hko2 hbp hy9
    go_wp2_with fail
    obtain ⟨u0, u1, u2⟩ := box_sk HZ.out
    exact bodyPost_ret (v := .agg #[.int .i64 sc, .slice A9 ws.length c9, .slice vD ds.length cD]) (by simp [results, Tryz.results98, go_sem, u0, u1, u2]; try rfl) rfl ⟨_, rfl, ⟨_, _, rfl, HZO.out, HZD.out⟩, HZB.out⟩
def isC (e : TypeId) : Prop := e = 78 ∨ e = 46 ∨ e = 147
theorem isC_int : ¬ isC 3 := by unfold isC; decide
theorem isC_msg : ¬ isC 33 := by unfold isC; decide
structure PtC (w0 : World) (b p : Nat) (c : Int) (vW vD : Value) (ws : List Wt) (ds : List Sp) (W : World) : Prop where
 bl : Below b w0 W
 ord : b ≤ p ∧ b ≤ W.heap.size
 bx : Box W p 147 #[.int .i64 c, vW, vD]
 ow : KO KW W b 78 vW ws
 od : W.ownsRow b 46 2 vD ds.length (flat spc ds)
section
variable {w0 W W' : World} {b p : Nat} {c : Int} {vW vD : Value} {ws : List Wt} {ds : List Sp}
theorem PtC.below (h : PtC w0 b p c vW vD ws ds W) (hb : Below W.heap.size W W') : PtC w0 b p c vW vD ws ds W' :=
 ⟨h.bl.trans (hb.mono h.ord.2), ⟨h.ord.1, Nat.le_trans h.ord.2 hb.size⟩, h.bx.below hb h.bx.lt, h.ow.below hb, own_below3 h.od hb⟩
theorem PtC.forms (h : PtC w0 b p c vW vD ws ds W) : ∃ A n cw B cd, vW = .slice A ws.length cw ∧ vD = .slice B ds.length cd ∧ n = ws.length := by
 obtain ⟨A, cw, e1, _⟩ := h.ow.g
 obtain ⟨B, cd, e2, _⟩ := own_form h.od
 exact ⟨A, _, cw, B, cd, e1, e2, rfl⟩
theorem PtC.setC (h : PtC w0 b p c vW vD ws ds W) (x : Int) : PtC w0 b p x vW vD ws ds (W.setCell ⟨p, 0, none⟩ (.int .i64 x)) ∧ Kept isC W (W.setCell ⟨p, 0, none⟩ (.int .i64 x)) := by
 have hk : Kept (fun e => e = 147) W (W.setCell ⟨p, 0, none⟩ (.int .i64 x)) := Kept.set (S := fun e => e = 147) h.bx rfl _
 exact ⟨⟨h.bl.setCell (p := ⟨p, 0, none⟩) h.ord.1 _, ⟨h.ord.1, by have := h.ord.2; simpa using this⟩, by have := h.bx.stored 0 (.int .i64 x); simpa using this, KO.kept hk (by decide) (by decide) h.ow, hk.own h.od (by decide)⟩, hk.mono fun e he => .inr (.inr he)⟩
theorem PtC.newW (h : PtC w0 b p c vW vD ws ds W) {Wa : World} (hb : Below W.heap.size W Wa) {v2 : Value} {l : List Wt} (hg : Wa.grownBy W' vW.ownBlock) (h2 : KO KW W' b 78 v2 l) :
  PtC w0 b p c v2 vD l ds (W'.setCell ⟨p, 1, none⟩ v2) ∧ Kept isC W (W'.setCell ⟨p, 1, none⟩ v2) := by
 have ha := h.below hb
 obtain ⟨es, _, ho, _⟩ := ha.ow
 have hk1 : Kept (fun e => e = 78) Wa W' := Kept.grown (S := fun e => e = 78) ho rfl hg
 have hB : Below b Wa W' := Below.grown (Below.refl b Wa) hg ha.ord.2 fun g e => (own_block ho e).1
 have hx := hk1.box _ _ _ (by decide) ha.bx
 have hk2 : Kept (fun e => e = 147) W' (W'.setCell ⟨p, 1, none⟩ v2) := Kept.set (S := fun e => e = 147) hx rfl _
 refine ⟨⟨(ha.bl.trans hB).setCell (p := ⟨p, 1, none⟩) h.ord.1 _, ⟨h.ord.1, ?_⟩, by have := hx.stored 1 v2; simpa using this, KO.kept hk2 (by decide) (by decide) h2, hk2.own (hk1.own ha.od (by decide)) (by decide)⟩, ?_⟩
 ·have h1 := ha.ord.2
  have h2 := hB.size
  have : (W'.setCell ⟨p, 1, none⟩ v2).heap.size = W'.heap.size := by simp
  omega
 ·exact ((Kept.of_below hb).trans (hk1.mono fun e he => .inl he)).trans (hk2.mono fun e he => .inr (.inr he))
theorem PtC.addD (h : PtC w0 b p c vW vD ws ds W) {Wa : World} (hb : Below W.heap.size W Wa) {v2 : Value} {x : Sp} (hg : Wa.grownBy W' vD.ownBlock) (ho : W'.ownsRow b 46 2 v2 (ds.length + 1) (flat spc ds ++ spc x)) :
  PtC w0 b p c vW v2 ws (ds ++ [x]) (W'.setCell ⟨p, 2, none⟩ v2) ∧ Kept isC W (W'.setCell ⟨p, 2, none⟩ v2) := by
 have ha := h.below hb
 have hk1 : Kept (fun e => e = 46) Wa W' := Kept.grown (S := fun e => e = 46) ha.od rfl hg
 have hB : Below b Wa W' := Below.grown (Below.refl b Wa) hg ha.ord.2 fun g e => (own_block ha.od e).1
 have hx := hk1.box _ _ _ (by decide) ha.bx
 have hk2 : Kept (fun e => e = 147) W' (W'.setCell ⟨p, 2, none⟩ v2) := Kept.set (S := fun e => e = 147) hx rfl _
 refine ⟨⟨(ha.bl.trans hB).setCell (p := ⟨p, 2, none⟩) h.ord.1 _, ⟨h.ord.1, ?_⟩, by have := hx.stored 2 v2; simpa using this, KO.kept hk2 (by decide) (by decide) (KO.kept hk1 (by decide) (by decide) ha.ow), ?_⟩, ?_⟩
 ·have h1 := ha.ord.2
  have h2 := hB.size
  have : (W'.setCell ⟨p, 2, none⟩ v2).heap.size = W'.heap.size := by simp
  omega
 ·rw [flat_append, flat_one, List.length_append]
  exact hk2.own ho (by decide)
 ·exact ((Kept.of_below hb).trans (hk1.mono fun e he => .inr (.inl he))).trans (hk2.mono fun e he => .inr (.inr he))
theorem PtC.storeW {q n d k j : Nat} {x x' : Wt} {u : Value} (h : PtC w0 b p c (.slice (some ⟨q, 0, none⟩) n d) vD ws ds W) (hk : ws[k]? = some x) (hj : j < 7) (hx : ∀ A d, KW.cel A d x' = (KW.cel A d x).set j u) (hg : x'.m.gs = x.m.gs) :
  PtC w0 b p c (.slice (some ⟨q, 0, none⟩) n d) vD (ws.set k x') ds (W.setCell ⟨q, k * 7 + j, none⟩ u) ∧ Kept isC W (W.setCell ⟨q, k * 7 + j, none⟩ u) := by
 obtain ⟨h1, h2, h3, h4⟩ := h.ow.store hk hj hx hg (by decide)
 exact ⟨⟨h.bl.trans h3, ⟨h.ord.1, by have := h.ord.2; have e : (W.setCell ⟨q, k * 7 + j, none⟩ u).heap.size = W.heap.size := h4; omega⟩, h2.box _ _ _ (by decide) h.bx, h1, h2.own h.od (by decide)⟩, h2.mono fun e he => .inl he⟩
end
theorem wtc_store {w : World} {b : Nat} {T : TypeId} {l : List Wt} {q n c k : Nat} {x : Wt} (h : KO KW w b T (.slice (some ⟨q, 0, none⟩) n c) l) (hk : l[k]? = some x) :
  ∃ B d, At7 w q (k * 7) B d x ∧ (∀ i, w.frozen? ⟨q, i, none⟩ = false) ∧ RowGe w b B d x.m.gs := by
 obtain ⟨B, d, h1, h2, h3⟩ := h.cellAt hk
 exact ⟨B, d, ⟨h1 0 _ rfl, h1 1 _ rfl, h1 2 _ rfl, h1 3 _ rfl, h1 4 _ rfl, h1 5 _ rfl, h1 6 _ rfl⟩, h2, h3⟩
theorem flat_takeK {α : Type} {f : α → List Value} {s : Nat} : ∀ (l : List α) (k : Nat), (∀ a ∈ l, (f a).length = s) → (flat f l).take (k * s) = flat f (l.take k)
 | [], k, _ => by simp [flat]
 | a :: l, 0, _ => by simp [flat]
 | a :: l, k + 1, h => by
  have ha := h a (List.mem_cons_self ..)
  rw [flat_cons, List.take_succ_cons, flat_cons, Nat.add_mul, Nat.one_mul, List.take_append, ha, List.take_of_length_le (by omega), Nat.add_sub_cancel, flat_takeK l k (fun b hb => h b (List.mem_cons_of_mem _ hb))]
theorem flat_dropK {α : Type} {f : α → List Value} {s : Nat} : ∀ (l : List α) (k : Nat), (∀ a ∈ l, (f a).length = s) → (flat f l).drop (k * s) = flat f (l.drop k)
 | [], k, _ => by simp [flat]
 | a :: l, 0, _ => by simp [flat]
 | a :: l, k + 1, h => by
  have ha := h a (List.mem_cons_self ..)
  rw [flat_cons, List.drop_succ_cons, Nat.add_mul, Nat.one_mul, List.drop_append, ha, List.drop_eq_nil_of_le (by omega), List.nil_append, Nat.add_sub_cancel, flat_dropK l k (fun b hb => h b (List.mem_cons_of_mem _ hb))]
section
variable {α : Type} {K : Kd α} {w w' : World} {b : Nat} {T : TypeId} {v v2 : Value} {l : List α}
theorem kO_of (es : List (Ex α)) (ho : w.ownsRow b T K.s v es.length (flat (exc K) es)) (hr : ∀ e ∈ es, RowGe w b e.A e.c (K.gs e.x)) (hT : T ≠ 3) : KO K w b T v (es.map Ex.x) :=
 ⟨es, rfl, ho, fun e he => ⟨hr e he, fun ad ea hn k => by
  obtain ⟨g, cur, e1, _, e3, _⟩ := (hr e he).3 hn
  rw [ea] at e1
  injection e1 with e1
  rw [e1] at k
  exact own_ne ho e3 hT k.symm⟩⟩
theorem kO_ins {i n : Nat} {x : α} {A : Option Addr} {c : Nat} (es : List (Ex α)) (hn : es.length = n) (hi : i ≤ n) (hr : ∀ e ∈ es, RowGe w b e.A e.c (K.gs e.x) ∧ ∀ ad, e.A = some ad → 0 < (K.gs e.x).length → v.ownBlock ≠ some ad.block)
  (h1 : RowGe w b A c (K.gs x)) (n1 : ∀ ad, A = some ad → 0 < (K.gs x).length → v.ownBlock ≠ some ad.block) (hg : w.grownBy w' v.ownBlock)
  (ho : w'.ownsRow b T K.s v2 (n + 1) ((flat (exc K) es).take (i * K.s) ++ K.cel A c x ++ (flat (exc K) es).drop (i * K.s))) (hT : T ≠ 3) : KO K w' b T v2 ((es.map Ex.x).take i ++ [x] ++ (es.map Ex.x).drop i) := by
 have he : (es.map Ex.x).take i ++ [x] ++ (es.map Ex.x).drop i = (es.take i ++ [(⟨A, c, x⟩ : Ex α)] ++ es.drop i).map Ex.x := by simp
 have hl : (es.take i ++ [(⟨A, c, x⟩ : Ex α)] ++ es.drop i).length = n + 1 := by simp; omega
 rw [he]
 refine kO_of _ ?_ (fun e hm => ?_) hT
 ·rw [hl, flat_append, flat_append, flat_one, ← flat_takeK es i (exc_len K es), ← flat_dropK es i (exc_len K es)]
  exact ho
 ·rw [List.mem_append, List.mem_append, List.mem_singleton] at hm
  rcases hm with (hm | rfl) | hm
  ·obtain ⟨g1, g2⟩ := hr e (List.mem_of_mem_take hm)
   exact rowGe_grown g1 hg g2
  ·exact rowGe_grown h1 hg n1
  ·obtain ⟨g1, g2⟩ := hr e (List.mem_of_mem_drop hm)
   exact rowGe_grown g1 hg g2
theorem kO_del {i n : Nat} (es : List (Ex α)) (hn : es.length = n) (hi : i < n) (hr : ∀ e ∈ es, RowGe w b e.A e.c (K.gs e.x) ∧ ∀ ad, e.A = some ad → 0 < (K.gs e.x).length → v.ownBlock ≠ some ad.block)
  (hg : w.grownBy w' v.ownBlock) (ho : w'.ownsRow b T K.s v2 (n - 1) ((flat (exc K) es).take (i * K.s) ++ (flat (exc K) es).drop ((i + 1) * K.s))) (hT : T ≠ 3) : KO K w' b T v2 ((es.map Ex.x).eraseIdx i) := by
 have he : (es.map Ex.x).eraseIdx i = (es.take i ++ es.drop (i + 1)).map Ex.x := by rw [List.eraseIdx_eq_take_drop_succ]; simp
 have hl : (es.take i ++ es.drop (i + 1)).length = n - 1 := by simp; omega
 rw [he]
 refine kO_of _ ?_ (fun e hm => ?_) hT
 ·rw [hl, flat_append, ← flat_takeK es i (exc_len K es), ← flat_dropK es (i + 1) (exc_len K es)]
  exact ho
 ·rw [List.mem_append] at hm
  rcases hm with hm | hm
  ·obtain ⟨g1, g2⟩ := hr e (List.mem_of_mem_take hm)
   exact rowGe_grown g1 hg g2
  ·obtain ⟨g1, g2⟩ := hr e (List.mem_of_mem_drop hm)
   exact rowGe_grown g1 hg g2
end
end KP
end Go.Proofs.YteebeiaokfenmaaGreat
