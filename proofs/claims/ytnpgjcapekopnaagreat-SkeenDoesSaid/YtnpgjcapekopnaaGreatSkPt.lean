/-
  A clock in a variable of one's own while a command is done to it: how its cells, its rows are stored into. No walk.
-/
import Derived.Test.YtnpgjcapekopnaaGreatSkAp
import Derived.Test.YtnpgjcapekopnaaGreatSkDef
namespace Go.Proofs.YtnpgjcapekopnaaGreat.KP
open Go.RowKit CP TP
open CM (Mg Cm)
open TM (Sp)
open KM (Wt Sk)
set_option linter.unusedVariables false
set_option linter.unusedSimpArgs false

theorem flat_set1 {α : Type} {f : α → List Value} {s : Nat} {j : Nat} {u : Value} : ∀ {l : List α} {k : Nat} {a a' : α}, (∀ a, (f a).length = s) → l[k]? = some a → j < s → f a' = (f a).set j u → (flat f l).set (k * s + j) u = flat f (l.set k a')
  | [], k, a, a', _, h, _, _ => by simp at h
  | b :: l, 0, a, a', hf, h, hj, he => by
    simp at h; subst h
    rw [flat_cons, Nat.zero_mul, Nat.zero_add, List.set_append_left _ _ (by rw [hf]; exact hj), List.set_cons_zero, flat_cons, he]
  | b :: l, k + 1, a, a', hf, h, hj, he => by
    have ih := flat_set1 (l := l) (k := k) hf (by simpa using h) hj he
    rw [flat_cons, List.set_append_right _ _ (by rw [hf, Nat.add_mul]; omega), List.set_cons_succ, flat_cons, ← ih]
    congr 2
    rw [hf, Nat.add_mul]
    omega
section
variable {α : Type} {K : Kd α} {w : World} {b : Nat} {T : TypeId} {l : List α}
/-- a cell of an element stored -/
theorem KO.store {q n c k j : Nat} {x x' : α} {u : Value} (h : KO K w b T (.slice (some ⟨q, 0, none⟩) n c) l) (hk : l[k]? = some x) (hj : j < K.s) (hx : ∀ A d, K.cel A d x' = (K.cel A d x).set j u) (hg : K.gs x' = K.gs x) (hT : T ≠ 3) :
    KO K (w.setCell ⟨q, k * K.s + j, none⟩ u) b T (.slice (some ⟨q, 0, none⟩) n c) (l.set k x') ∧ Kept (fun e => e = T) w (w.setCell ⟨q, k * K.s + j, none⟩ u) ∧ Below b w (w.setCell ⟨q, k * K.s + j, none⟩ u) ∧ (w.setCell ⟨q, k * K.s + j, none⟩ u).heap.size = w.heap.size := by
  obtain ⟨es, rfl, h2, h3⟩ := h
  have hn : n = es.length := by
    obtain ⟨A', c', e, _⟩ := own_form h2
    injection e
  subst hn
  rw [List.getElem?_map] at hk
  rcases he : es[k]? with _ | e
  · rw [he] at hk; cases hk
  rw [he] at hk
  injection hk with hk
  subst hk
  have hkl := (List.getElem?_eq_some_iff.1 he).1
  obtain ⟨hb, cur, hc⟩ := own_block h2 (show (Value.slice (some ⟨q, 0, none⟩) es.length c).ownBlock = some q from rfl)
  have hkp : Kept (fun e => e = T) w (w.setCell ⟨q, k * K.s + j, none⟩ u) := Kept.set (S := fun e => e = T) hc rfl u
  refine ⟨⟨es.set k ⟨e.A, e.c, x'⟩, by rw [List.map_set], ?_, fun e' he' => ?_⟩, hkp, (Below.refl _ _).setCell (p := ⟨q, k * K.s + j, none⟩) hb u, by simp⟩
  · have h1 := (h2.stored (k * K.s + j) u).1
    rw [flat_set1 (f := exc K) (fun a => K.len _ _ _) he hj (show exc K ⟨e.A, e.c, x'⟩ = _ from hx e.A e.c)] at h1
    rw [List.length_set]
    exact h1
  · have hi : ¬ (3 = T) := fun e => hT e.symm
    rcases List.mem_or_eq_of_mem_set he' with he' | rfl
    · exact ⟨rowGe_kept hkp hi (h3 e' he').1, (h3 e' he').2⟩
    · have := h3 e (List.mem_of_getElem? he)
      exact ⟨by rw [hg]; exact rowGe_kept hkp hi this.1, by rw [hg]; exact this.2⟩
/-- what a walk wants of a cell that is stored into -/
theorem KO.cellAt {q n c k : Nat} {x : α} (h : KO K w b T (.slice (some ⟨q, 0, none⟩) n c) l) (hk : l[k]? = some x) : ∃ B d, (∀ j u, (K.cel B d x)[j]? = some u → w.cell? ⟨q, k * K.s + j, none⟩ = some u) ∧ (∀ i, w.frozen? ⟨q, i, none⟩ = false) ∧ RowGe w b B d (K.gs x) := by
  obtain ⟨hn, _, _, hg⟩ := h.slice
  obtain ⟨bl, o, B, d, e, _, _, hc, hr⟩ := hg.at_ hk
  injection e with e
  injection e with e1 e2
  subst e1 e2
  obtain ⟨es, _, h2, _⟩ := h
  obtain ⟨_, cur, hx⟩ := own_block h2 (show (Value.slice (some ⟨q, 0, none⟩) n c).ownBlock = some q from rfl)
  exact ⟨B, d, fun j u hu => by have := hc j u hu; rwa [Nat.zero_add] at this, hx.frozen, hr⟩
/-- where there are some, the row lies at a block's beginning -/
theorem KO.some {A : Option Addr} {n c k : Nat} {x : α} (h : KO K w b T (.slice A n c) l) (hk : l[k]? = some x) : ∃ q, A = some ⟨q, 0, none⟩ := by
  obtain ⟨es, rfl, h2, _⟩ := h
  have hn : n = es.length := by
    obtain ⟨A', c', e, _⟩ := own_form h2
    injection e
  subst hn
  have hkl := (List.getElem?_eq_some_iff.1 hk).1
  rw [List.length_map] at hkl
  obtain ⟨q, e, _⟩ := own_some h2 (by omega)
  exact ⟨q, e⟩
end
/-- the types that change while a command is done -/
def isS (e : TypeId) : Prop := e = 52 ∨ e = 70 ∨ e = 25
theorem isS_int : ¬ isS 3 := by unfold isS; decide
theorem isS_msg : ¬ isS 28 := by unfold isS; decide
theorem isS_cmd : ¬ isS 30 := by unfold isS; decide
/-- the types whose older rows may change -/
def isT (e : TypeId) : Prop := e = 52 ∨ e = 70 ∨ e = 28
theorem isT_skeen : ¬ isT 25 := by unfold isT; decide
/-- the clock in its variable at p3, the command at p5, the result at p6; what lies below b is as it was -/
structure PtS (w1 : World) (b p3 p5 p6 : Nat) (Cc : Array Value) (c : Int) (vW vD : Value) (ws : List Wt) (ds : List Sp) (W : World) : Prop where
  bl : Below b w1 W
  ord : p3 ≠ p6 ∧ b ≤ p3 ∧ b ≤ p6 ∧ b ≤ W.heap.size
  bx : Box W p3 25 #[.int .i64 c, vW, vD]
  ow : KO KW W b 52 vW ws
  od : W.ownsRow b 70 2 vD ds.length (flat spc ds)
  bc : Box W p5 30 Cc
  br : Box W p6 25 #[.int .i64 0, .slice none 0 0, .slice none 0 0]
  kp : ∀ g e cs, g < p3 → ¬ isT e → Box w1 g e cs → Box W g e cs
  lt : p3 < p6
section
variable {w1 W W' : World} {b p3 p5 p6 : Nat} {Cc : Array Value} {c : Int} {vW vD : Value} {ws : List Wt} {ds : List Sp}
theorem PtS.below (h : PtS w1 b p3 p5 p6 Cc c vW vD ws ds W) (hb : Below W.heap.size W W') : PtS w1 b p3 p5 p6 Cc c vW vD ws ds W' :=
  ⟨h.bl.trans (hb.mono h.ord.2.2.2), ⟨h.ord.1, h.ord.2.1, h.ord.2.2.1, Nat.le_trans h.ord.2.2.2 hb.size⟩, h.bx.below hb h.bx.lt, h.ow.below hb, own_below3 h.od hb, h.bc.below hb h.bc.lt, h.br.below hb h.br.lt, fun g e cs hg he hx => (h.kp g e cs hg he hx).below hb (h.kp g e cs hg he hx).lt, h.lt⟩
/-- another row grows, of another type -/
theorem PtS.kept {S : TypeId → Prop} (h : PtS w1 b p3 p5 p6 Cc c vW vD ws ds W) (hk : Kept S W W') (hb : Below b W W') (s1 : ¬ S 25) (s2 : ¬ S 52) (s3 : ¬ S 70) (s4 : ¬ S 30) (s5 : ¬ S 3) (s6 : ∀ e, S e → isT e) : PtS w1 b p3 p5 p6 Cc c vW vD ws ds W' :=
  ⟨h.bl.trans hb, ⟨h.ord.1, h.ord.2.1, h.ord.2.2.1, Nat.le_trans h.ord.2.2.2 hb.size⟩, hk.box _ _ _ s1 h.bx, KO.kept hk s5 s2 h.ow, hk.own h.od s3, hk.box _ _ _ s4 h.bc, hk.box _ _ _ s1 h.br, fun g e cs hg he hx => hk.box _ _ _ (fun hs => he (s6 e hs)) (h.kp g e cs hg he hx), h.lt⟩
/-- a cell of the variable stored -/
theorem PtS.setC (h : PtS w1 b p3 p5 p6 Cc c vW vD ws ds W) (x : Int) : PtS w1 b p3 p5 p6 Cc x vW vD ws ds (W.setCell ⟨p3, 0, none⟩ (.int .i64 x)) ∧ Kept isS W (W.setCell ⟨p3, 0, none⟩ (.int .i64 x)) := by
  have hk : Kept (fun e => e = 25) W (W.setCell ⟨p3, 0, none⟩ (.int .i64 x)) := Kept.set (S := fun e => e = 25) h.bx rfl _
  exact ⟨⟨h.bl.setCell (p := ⟨p3, 0, none⟩) h.ord.2.1 _, ⟨h.ord.1, h.ord.2.1, h.ord.2.2.1, by have := h.ord.2.2.2; simpa using this⟩, by have := h.bx.stored 0 (.int .i64 x); simpa using this, KO.kept hk (by decide) (by decide) h.ow, hk.own h.od (by decide), hk.box _ _ _ (by decide) h.bc, h.br.far (p := ⟨p3, 0, none⟩) (by exact fun e => h.ord.1 e.symm) _, fun g e cs hg he hx => (h.kp g e cs hg he hx).far (p := ⟨p3, 0, none⟩) (Nat.ne_of_lt hg) _, h.lt⟩,
    hk.mono fun e he => .inr (.inr he)⟩
theorem PtS.setW (h : PtS w1 b p3 p5 p6 Cc c vW vD ws ds W) {v2 : Value} {l : List Wt} (h2 : KO KW W b 52 v2 l) : PtS w1 b p3 p5 p6 Cc c v2 vD l ds (W.setCell ⟨p3, 1, none⟩ v2) ∧ Kept isS W (W.setCell ⟨p3, 1, none⟩ v2) := by
  have hk : Kept (fun e => e = 25) W (W.setCell ⟨p3, 1, none⟩ v2) := Kept.set (S := fun e => e = 25) h.bx rfl _
  exact ⟨⟨h.bl.setCell (p := ⟨p3, 1, none⟩) h.ord.2.1 _, ⟨h.ord.1, h.ord.2.1, h.ord.2.2.1, by have := h.ord.2.2.2; simpa using this⟩, by have := h.bx.stored 1 v2; simpa using this, KO.kept hk (by decide) (by decide) h2, hk.own h.od (by decide), hk.box _ _ _ (by decide) h.bc, h.br.far (p := ⟨p3, 1, none⟩) (by exact fun e => h.ord.1 e.symm) _, fun g e cs hg he hx => (h.kp g e cs hg he hx).far (p := ⟨p3, 1, none⟩) (Nat.ne_of_lt hg) _, h.lt⟩,
    hk.mono fun e he => .inr (.inr he)⟩
/-- the row of what was done has grown, and is stored -/
theorem PtS.addD (h : PtS w1 b p3 p5 p6 Cc c vW vD ws ds W) {Wa : World} (hb : Below W.heap.size W Wa) {v2 : Value} {x : Sp} (hg : Wa.grownBy W' vD.ownBlock) (ho : W'.ownsRow b 70 2 v2 (ds.length + 1) (flat spc ds ++ spc x)) :
    PtS w1 b p3 p5 p6 Cc c vW v2 ws (ds ++ [x]) (W'.setCell ⟨p3, 2, none⟩ v2) ∧ Kept isS W (W'.setCell ⟨p3, 2, none⟩ v2) := by
  have ha := h.below hb
  have hk1 : Kept (fun e => e = 70) Wa W' := Kept.grown (S := fun e => e = 70) ha.od rfl hg
  have hB : Below b Wa W' := Below.grown (Below.refl b Wa) hg ha.ord.2.2.2 fun g e => (own_block ha.od e).1
  have hx := hk1.box _ _ _ (by decide) ha.bx
  have hk2 : Kept (fun e => e = 25) W' (W'.setCell ⟨p3, 2, none⟩ v2) := Kept.set (S := fun e => e = 25) hx rfl _
  refine ⟨⟨(ha.bl.trans hB).setCell (p := ⟨p3, 2, none⟩) h.ord.2.1 _, ⟨h.ord.1, h.ord.2.1, h.ord.2.2.1, ?_⟩, by have := hx.stored 2 v2; simpa using this, KO.kept hk2 (by decide) (by decide) (KO.kept hk1 (by decide) (by decide) ha.ow), ?_, hk2.box _ _ _ (by decide) (hk1.box _ _ _ (by decide) ha.bc), ?_, fun g e cs hg he hx => (hk1.box _ _ _ (fun (q : e = 70) => he (.inr (.inl q))) (ha.kp g e cs hg he hx)).far (p := ⟨p3, 2, none⟩) (Nat.ne_of_lt hg) _, h.lt⟩, ?_⟩
  · have h1 := ha.ord.2.2.2
    have h2 := hB.size
    have : (W'.setCell ⟨p3, 2, none⟩ v2).heap.size = W'.heap.size := by simp
    omega
  · rw [flat_append, flat_one, List.length_append]
    exact hk2.own ho (by decide)
  · exact (hk1.box _ _ _ (by decide) ha.br).far (p := ⟨p3, 2, none⟩) (by exact fun e => h.ord.1 e.symm) _
  · exact ((Kept.of_below hb).trans (hk1.mono fun e he => .inr (.inl he))).trans (hk2.mono fun e he => .inr (.inr he))
/-- a cell of what waits stored -/
theorem PtS.storeW {q n d k j : Nat} {x x' : Wt} {u : Value} (h : PtS w1 b p3 p5 p6 Cc c (.slice (some ⟨q, 0, none⟩) n d) vD ws ds W) (hk : ws[k]? = some x) (hj : j < 7) (hx : ∀ A d, KW.cel A d x' = (KW.cel A d x).set j u) (hg : x'.m.gs = x.m.gs) :
    PtS w1 b p3 p5 p6 Cc c (.slice (some ⟨q, 0, none⟩) n d) vD (ws.set k x') ds (W.setCell ⟨q, k * 7 + j, none⟩ u) ∧ Kept isS W (W.setCell ⟨q, k * 7 + j, none⟩ u) := by
  obtain ⟨h1, h2, h3, h4⟩ := h.ow.store hk hj hx hg (by decide)
  exact ⟨⟨h.bl.trans h3, ⟨h.ord.1, h.ord.2.1, h.ord.2.2.1, by have := h.ord.2.2.2; have e : (W.setCell ⟨q, k * 7 + j, none⟩ u).heap.size = W.heap.size := h4; omega⟩, h2.box _ _ _ (by decide) h.bx, h1, h2.own h.od (by decide), h2.box _ _ _ (by decide) h.bc, h2.box _ _ _ (by decide) h.br, fun g e cs hg he hx => h2.box _ _ _ (fun (q : e = 52) => he (.inl q)) (h.kp g e cs hg he hx), h.lt⟩, h2.mono fun e he => .inl he⟩
end
end Go.Proofs.YtnpgjcapekopnaaGreat.KP
