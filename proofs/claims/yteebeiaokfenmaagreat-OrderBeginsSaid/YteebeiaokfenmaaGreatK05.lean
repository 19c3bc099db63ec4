/-
  Owned rows of what waits through stores elsewhere; a copy of a clock as it grows. No walk.
  One element appended onto a row of one's own of structs that hold one slice of ints. No walk, no program.
  A clock in a variable of one's own while a command is done to it: how its cells, its rows are stored into. No walk.
  Package skeen: the copy of a clock in its variable, while a command is done to it. No walk.
  A row of structs of one's own, with one put in, one taken out. No walk, no program.
-/
import Derived.Test.YteebeiaokfenmaaGreatK01
namespace Go.Proofs.YteebeiaokfenmaaGreat.KP
open Go.RowKit CP TP
open CM (Mg Cm)
open TM (Sp)
open KM (Wt Sk)
set_option linter.unusedVariables false
set_option linter.unusedSimpArgs false

theorem box_type {w : World} {g : Nat} {t t' : TypeId} {cs cs' : Array Value} (h : Box w g t cs) (h' : Box w g t' cs') : t = t' := by
  rw [Box] at h h'
  rw [h] at h'
  injection h' with h'
  injection h' with _ h'
section
variable {α : Type} {K : Kd α} {w w' : World} {b : Nat} {T : TypeId} {v : Value} {l : List α} {S : TypeId → Prop}
theorem rowGe_kept {A : Option Addr} {c : Nat} {L : List Int} (k : Kept S w w') (hi : ¬ S 3) (h : RowGe w b A c L) : RowGe w' b A c L := by
  refine ⟨⟨⟨h.1.1.1, fun hn => ?_⟩, h.1.2⟩, h.2, fun hn => ?_⟩
  · obtain ⟨g, cur, e, hb, hx, hs⟩ := h.3 hn
    obtain ⟨ad, e2, hB, hc⟩ := h.1.1.2 hn
    rw [e] at e2
    injection e2 with e2
    subst e2
    have hx' := k.box g _ cur hi hx
    refine ⟨⟨g, 0, none⟩, e, hx'.lt, fun j u hu => ?_⟩
    have := hc j u hu
    rw [add_none] at this ⊢
    rw [hx.cell] at this
    rw [hx'.cell]
    exact this
  · obtain ⟨g, cur, e, hb, hx, hs⟩ := h.3 hn
    exact ⟨g, cur, e, hb, k.box g _ cur hi hx, hs⟩
theorem KO.kept (k : Kept S w w') (hi : ¬ S 3) (hT : ¬ S T) (h : KO K w b T v l) : KO K w' b T v l := by
  obtain ⟨es, h1, h2, h3⟩ := h
  exact ⟨es, h1, k.own h2 hT, fun e he => ⟨rowGe_kept k hi (h3 e he).1, (h3 e he).2⟩⟩
theorem KO.set (h : KO K w b T v l) {g i : Nat} (hg : g < b) (u : Value) : KO K (w.setCell ⟨g, i, none⟩ u) b T v l := by
  obtain ⟨es, h1, h2, h3⟩ := h
  exact ⟨es, h1, ownsRow_setCell_below h2 (a := ⟨g, i, none⟩) hg u, fun e he => ⟨(h3 e he).1.set hg u, (h3 e he).2⟩⟩
/-- an owned row's block is one of a type -/
theorem own_ne {base s n g : Nat} {e t : TypeId} {xs : List Value} {cs : Array Value} (h : w.ownsRow base e s v n xs) (hx : Box w g t cs) (hne : e ≠ t) : some g ≠ v.ownBlock := fun k => by
  obtain ⟨_, cur, hc⟩ := own_block h k.symm
  exact hne (box_type hc hx)
theorem own_ne2 {base base' s s' n n' : Nat} {e t : TypeId} {v' : Value} {xs ys : List Value} (h : w.ownsRow base e s v n xs) (h' : w.ownsRow base' t s' v' n' ys) (hne : e ≠ t) : ∀ g, v'.ownBlock = some g → some g ≠ v.ownBlock := fun g hg => by
  obtain ⟨_, cur, hc⟩ := own_block h' hg
  exact own_ne h hc hne
end
theorem kept_put3 {w : World} {g : Nat} {t : TypeId} {cs : Array Value} (h : Box w g t cs) (x y z : Value) : Kept (fun e => e = t) w (((w.setCell ⟨g, 0, none⟩ x).setCell ⟨g, 1, none⟩ y).setCell ⟨g, 2, none⟩ z) :=
  Kept.trans (Kept.trans (Kept.set (S := fun e => e = t) h rfl x) (Kept.set (S := fun e => e = t) (h.stored 0 x) rfl y)) (Kept.set (S := fun e => e = t) ((h.stored 0 x).stored 1 y) rfl z)
/-- a copy of a clock as it grows: it lies at p, what was there ahead of it stays -/
structure TwR (w1 : World) (p b2 : Nat) (c : Int) (vd : Value) (ds : List Sp) (l : List Wt) (W : World) : Prop where
  bl : Below w1.heap.size w1 W
  ok : w1.heap.size ≤ p ∧ p < b2 ∧ b2 ≤ W.heap.size
  bp : ∃ vW, Box W p 39 #[.int .i64 c, vW, vd] ∧ KO KW W b2 78 vW l
  dn : W.ownsRow w1.heap.size 46 2 vd ds.length (flat spc ds)
theorem TwR.below {w1 W W' : World} {p b2 : Nat} {c : Int} {vd : Value} {ds : List Sp} {l : List Wt} (h : TwR w1 p b2 c vd ds l W) (hb : Below W.heap.size W W') : TwR w1 p b2 c vd ds l W' := by
  obtain ⟨vW, h1, h2⟩ := h.bp
  exact ⟨bmore h.bl hb (Nat.le_refl _), ⟨h.ok.1, h.ok.2.1, Nat.le_trans h.ok.2.2 hb.size⟩, ⟨vW, h1.below hb h1.lt, h2.below hb⟩, own_below3 h.dn hb⟩
theorem twR_next {w1 W Wa W' : World} {p b2 : Nat} {c : Int} {vd vW v2 : Value} {ds : List Sp} {l : List Wt} {x : Wt} {A : Option Addr} {d : Nat} (hT : TwR w1 p b2 c vd ds l W) (hbp : Box W p 39 #[.int .i64 c, vW, vd])
    {k : Nat} (es : List (Ex Wt)) (hk : es.length = k) (hl : es.map Ex.x = l) (ho : W.ownsRow b2 78 7 vW k (flat (exc KW) es)) (hr : ∀ e ∈ es, RowGe W b2 e.A e.c (KW.gs e.x) ∧ ∀ ad, e.A = some ad → 0 < (KW.gs e.x).length → vW.ownBlock ≠ some ad.block)
    (hb : Below W.heap.size W Wa) (h1 : RowGe Wa W.heap.size A d x.m.gs) (hg : Wa.grownBy W' vW.ownBlock)
    (ho2 : W'.ownsRow b2 78 7 v2 (k + 1) (flat (exc KW) es ++ KW.cel A d x)) (hob : v2.ownBlock = vW.ownBlock ∨ v2.ownBlock = some Wa.heap.size) : TwR w1 p b2 c vd ds (l ++ [x]) (W'.setCell ⟨p, 1, none⟩ v2) := by
  subst hk
  have hsz : W.heap.size ≤ Wa.heap.size := hb.size
  have hoa := own_below3 ho hb
  have hbpa := hbp.below hb hbp.lt
  have hdn := own_below3 hT.dn hb
  have hpw := own_ne hoa hbpa (by decide)
  have hbp' := hbpa.grown hg hpw
  have hKO : KO KW W' b2 78 v2 (l ++ [x]) := kO_next (K := KW) es hl (fun e he => ⟨(hr e he).1.below hb, (hr e he).2⟩) (h1.mono hT.ok.2.2) (fun ad ea hn k => by
    obtain ⟨_, cur, hc⟩ := own_block ho k
    have := h1.2 ad ea hn
    have := hc.lt
    omega) hg ho2 hob
  have hk : Kept (· = 39) W' (W'.setCell ⟨p, 1, none⟩ v2) := Kept.set (S := fun e => e = 39) hbp' rfl v2
  refine ⟨?_, ⟨hT.ok.1, hT.ok.2.1, ?_⟩, ⟨v2, by have := hbp'.stored 1 v2; simpa using this, KO.kept hk (by decide) (by decide) hKO⟩, hk.own (own_grown hdn hg (own_ne2 hoa hdn (by decide))) (by decide)⟩
  · refine Below.setCell ?_ (p := ⟨p, 1, none⟩) hT.ok.1 v2
    exact below_row (bmore hT.bl hb (Nat.le_refl _)) (own_base hoa (Nat.le_of_lt (Nat.lt_of_le_of_lt hT.ok.1 hT.ok.2.1))) (Nat.le_trans hT.bl.size hsz) hg
  · have h1 := hT.ok.2.2
    have h2 := hg.size
    show b2 ≤ (W'.setCell ⟨p, 1, none⟩ v2).heap.size
    have : (W'.setCell ⟨p, 1, none⟩ v2).heap.size = W'.heap.size := by simp
    omega
end Go.Proofs.YteebeiaokfenmaaGreat.KP

namespace Go.Proofs.YteebeiaokfenmaaGreat.KP
open Go.RowKit CP TP
set_option linter.unusedVariables false
set_option linter.unusedSimpArgs false

section
variable {α : Type} {K : Kd α}
theorem KO.slice {w : World} {b : Nat} {T : TypeId} {A : Option Addr} {n c : Nat} {l : List α} (h : KO K w b T (.slice A n c) l) : n = l.length ∧ n ≤ c ∧ c ≤ maxLen ∧ KG K w b A n c l := by
  obtain ⟨A', c', e, hg⟩ := h.g
  injection e with e1 e2 e3
  subst e1 e2 e3
  have := hg.r.le
  exact ⟨rfl, this.1, this.2, hg⟩
/-- the block of such a row lies there -/
theorem KO.blk {w : World} {b : Nat} {T : TypeId} {v : Value} {l : List α} (h : KO K w b T v l) {g : Nat} (hg : v.ownBlock = some g) : b ≤ g ∧ g < w.heap.size := by
  obtain ⟨es, _, h2, _⟩ := h
  obtain ⟨h3, cur, hc⟩ := own_block h2 hg
  exact ⟨h3, hc.lt⟩
theorem wpList_append_ko {P : Program} {ops : Array Oper} {rest : List Oper} {o : Oper} {a : Act} {Q : Exit → Act → World → Prop} {w0 : World} {b : Nat} {T : TypeId} {A9 : Option Addr} {n9 c9 : Nat} {l : List α} {x : α} {A : Option Addr} {c : Nat}
    (hgd : o.guard = none) (so xo : Operand) (t : TypeId) (ho : o.op = .call { callee := .builtin .append, args := #[so, xo], argTypes := #[t, t] })
    (T' : TypeId) (i : TypeInfo) (z : Value) (bytes : Nat) (ht : P.underlying t = some (.slice T)) (hi : P.info? T = some i) (hz : i.zero = some z) (hsize : i.size = K.s) (hby : i.bytes = bytes) (hzs : z.cells.size = K.s)
    (hs : a.eval so = .slice A9 n9 c9) (hko : KO K w0 b T (.slice A9 n9 c9) l) (hx : a.eval xo = .slice (some ⟨w0.heap.size, 0, none⟩) 1 1) (cs : Array Value) (hcs : cs.toList = K.cel A c x)
    (hrow : RowGe w0 b A c (K.gs x)) (hne : ∀ ad, A = some ad → 0 < (K.gs x).length → (Value.slice A9 n9 c9).ownBlock ≠ some ad.block) (h63 : n9 + 1 ≤ maxLen) (hbytes : (n9 + 1) * bytes ≤ 140737488355328) (hb : b ≤ w0.heap.size)
    (h : ∀ A' c' w', KO K w' b T (.slice A' (n9 + 1) c') (l ++ [x]) → (w0.alloc (.cells cs T')).grownBy w' (Value.slice A9 n9 c9).ownBlock →
      ((Value.slice A' (n9 + 1) c').ownBlock = (Value.slice A9 n9 c9).ownBlock ∨ (Value.slice A' (n9 + 1) c').ownBlock = some (w0.alloc (.cells cs T')).heap.size) → wpList P ops Q rest (a.put o.dst (.slice A' (n9 + 1) c')) w') :
    wpList P ops Q (o :: rest) a (w0.alloc (.cells cs T')) := by
  have hb0 : Below w0.heap.size w0 (w0.alloc (.cells cs T')) := (Below.refl _ _).alloc (Nat.le_refl _) _
  obtain ⟨es, hl, ho1, hr⟩ := hko
  have hn : n9 = es.length := by
    obtain ⟨A', c', e, _⟩ := own_form ho1
    injection e
  rw [← hn] at ho1
  refine wpList_append_g _ hgd so xo t ho b T i z K.s bytes ht hi hz hsize hby hzs K.pos (.slice A9 n9 c9) n9 (flat (exc K) es) hs (own_below3 ho1 hb0) (some ⟨w0.heap.size, 0, none⟩) 1 1 (K.cel A c x) hx
    (rdG_box (s := K.s) (n := 1) (Box.new w0 T' cs) hcs (by rw [K.len]; omega)) (K.one _ _ _) h63 hbytes (Nat.le_trans hb hb0.size) ?_
  intro v' w' hown hgr hob
  obtain ⟨A', c', rfl, _, _⟩ := own_form hown
  refine h A' c' w' (kO_next (K := K) (w := w0.alloc (.cells cs T')) es hl (fun e he => ⟨(hr e he).1.below hb0, (hr e he).2⟩) (hrow.below hb0) hne hgr (by rw [← hn]; exact hown) hob) hgr hob
end
theorem filter_take {α : Type} {l : List α} {k : Nat} {x : α} {p : α → Bool} (h : l[k]? = some x) : (l.take (k + 1)).filter p = (l.take k).filter p ++ (if p x then [x] else []) := by
  rw [List.take_add_one, h, List.filter_append]
  congr 1
  simp [List.filter_cons]
theorem erase_take {α : Type} {l : List α} {k j : Nat} {x : α} (h : l[k]? = some x) : (l.take (k + 1)).eraseIdx j = if k = j then (l.take k).eraseIdx j else (l.take k).eraseIdx j ++ [x] := by
  have hkl := (List.getElem?_eq_some_iff.1 h).1
  have hlen : (l.take k).length = k := by rw [List.length_take]; omega
  rw [List.take_add_one, h]
  show (l.take k ++ [x]).eraseIdx j = _
  split
  · rename_i e
    subst e
    rw [List.eraseIdx_append_of_length_le (by omega), hlen]
    simp
    rw [List.eraseIdx_of_length_le (by omega)]
  · rename_i hne
    rcases Nat.lt_or_ge j k with hj | hj
    · rw [List.eraseIdx_append_of_lt_length (by omega)]
    · rw [List.eraseIdx_of_length_le (by rw [List.length_append, hlen]; simp; omega), List.eraseIdx_of_length_le (by omega)]
end Go.Proofs.YteebeiaokfenmaaGreat.KP

namespace Go.Proofs.YteebeiaokfenmaaGreat.KP
open Go.RowKit CP TP
open CM (Mg Cm)
open TM (Sp)
open KM (Wt Sk)
set_option linter.unusedVariables false
set_option linter.unusedSimpArgs false

theorem flat_set1 {α : Type} {f : α → List Value} {s : Nat} {j : Nat} {u : Value} : ∀ {l : List α} {k : Nat} {a a' : α}, (∀ a, (f a).length = s) → l[k]? = some a → j < s → f a' = (f a).set j u → (flat f l).set (k * s + j) u = flat f (l.set k a')
  | [], k, a, a', _, h, _, _ => by simp at h
  | b :: l, 0, a, a', hf, h, hj, he => by
    simp at h; subst h
    rw [flat_cons, Nat.zero_mul, Nat.zero_add, List.set_append_left _ _ (by rw [hf]; exact hj), List.set_cons_zero, flat_cons, he]
  | b :: l, k + 1, a, a', hf, h, hj, he => by
    have ih := flat_set1 (l := l) (k := k) hf (by simpa using h) hj he
    rw [flat_cons, List.set_append_right _ _ (by rw [hf, Nat.add_mul]; omega), List.set_cons_succ, flat_cons, ← ih]
    congr 2
    rw [hf, Nat.add_mul]
    omega
section
variable {α : Type} {K : Kd α} {w : World} {b : Nat} {T : TypeId} {l : List α}
/-- a cell of an element stored -/
theorem KO.store {q n c k j : Nat} {x x' : α} {u : Value} (h : KO K w b T (.slice (some ⟨q, 0, none⟩) n c) l) (hk : l[k]? = some x) (hj : j < K.s) (hx : ∀ A d, K.cel A d x' = (K.cel A d x).set j u) (hg : K.gs x' = K.gs x) (hT : T ≠ 3) :
    KO K (w.setCell ⟨q, k * K.s + j, none⟩ u) b T (.slice (some ⟨q, 0, none⟩) n c) (l.set k x') ∧ Kept (fun e => e = T) w (w.setCell ⟨q, k * K.s + j, none⟩ u) ∧ Below b w (w.setCell ⟨q, k * K.s + j, none⟩ u) ∧ (w.setCell ⟨q, k * K.s + j, none⟩ u).heap.size = w.heap.size := by
  obtain ⟨es, rfl, h2, h3⟩ := h
  have hn : n = es.length := by
    obtain ⟨A', c', e, _⟩ := own_form h2
    injection e
  subst hn
  rw [List.getElem?_map] at hk
  rcases he : es[k]? with _ | e
  · rw [he] at hk; cases hk
  rw [he] at hk
  injection hk with hk
  subst hk
  have hkl := (List.getElem?_eq_some_iff.1 he).1
  obtain ⟨hb, cur, hc⟩ := own_block h2 (show (Value.slice (some ⟨q, 0, none⟩) es.length c).ownBlock = some q from rfl)
  have hkp : Kept (fun e => e = T) w (w.setCell ⟨q, k * K.s + j, none⟩ u) := Kept.set (S := fun e => e = T) hc rfl u
  refine ⟨⟨es.set k ⟨e.A, e.c, x'⟩, by rw [List.map_set], ?_, fun e' he' => ?_⟩, hkp, (Below.refl _ _).setCell (p := ⟨q, k * K.s + j, none⟩) hb u, by simp⟩
  · have h1 := (h2.stored (k * K.s + j) u).1
    rw [flat_set1 (f := exc K) (fun a => K.len _ _ _) he hj (show exc K ⟨e.A, e.c, x'⟩ = _ from hx e.A e.c)] at h1
    rw [List.length_set]
    exact h1
  · have hi : ¬ (3 = T) := fun e => hT e.symm
    rcases List.mem_or_eq_of_mem_set he' with he' | rfl
    · exact ⟨rowGe_kept hkp hi (h3 e' he').1, (h3 e' he').2⟩
    · have := h3 e (List.mem_of_getElem? he)
      exact ⟨by rw [hg]; exact rowGe_kept hkp hi this.1, by rw [hg]; exact this.2⟩
/-- what a walk wants of a cell that is stored into -/
theorem KO.cellAt {q n c k : Nat} {x : α} (h : KO K w b T (.slice (some ⟨q, 0, none⟩) n c) l) (hk : l[k]? = some x) : ∃ B d, (∀ j u, (K.cel B d x)[j]? = some u → w.cell? ⟨q, k * K.s + j, none⟩ = some u) ∧ (∀ i, w.frozen? ⟨q, i, none⟩ = false) ∧ RowGe w b B d (K.gs x) := by
  obtain ⟨hn, _, _, hg⟩ := h.slice
  obtain ⟨bl, o, B, d, e, _, _, hc, hr⟩ := hg.at_ hk
  injection e with e
  injection e with e1 e2
  subst e1 e2
  obtain ⟨es, _, h2, _⟩ := h
  obtain ⟨_, cur, hx⟩ := own_block h2 (show (Value.slice (some ⟨q, 0, none⟩) n c).ownBlock = some q from rfl)
  exact ⟨B, d, fun j u hu => by have := hc j u hu; rwa [Nat.zero_add] at this, hx.frozen, hr⟩
/-- where there are some, the row lies at a block's beginning -/
theorem KO.some {A : Option Addr} {n c k : Nat} {x : α} (h : KO K w b T (.slice A n c) l) (hk : l[k]? = some x) : ∃ q, A = some ⟨q, 0, none⟩ := by
  obtain ⟨es, rfl, h2, _⟩ := h
  have hn : n = es.length := by
    obtain ⟨A', c', e, _⟩ := own_form h2
    injection e
  subst hn
  have hkl := (List.getElem?_eq_some_iff.1 hk).1
  rw [List.length_map] at hkl
  obtain ⟨q, e, _⟩ := own_some h2 (by omega)
  exact ⟨q, e⟩
end
/-- the types that change while a command is done -/
def isS (e : TypeId) : Prop := e = 78 ∨ e = 46 ∨ e = 39
theorem isS_int : ¬ isS 3 := by unfold isS; decide
theorem isS_msg : ¬ isS 33 := by unfold isS; decide
theorem isS_cmd : ¬ isS 91 := by unfold isS; decide
/-- the types whose older rows may change -/
def isT (e : TypeId) : Prop := e = 78 ∨ e = 46 ∨ e = 33
theorem isT_skeen : ¬ isT 39 := by unfold isT; decide
/-- the clock in its variable at p3, the command at p5, the result at p6; what lies below b is as it was -/
structure PtS (w1 : World) (b p3 p5 p6 : Nat) (Cc : Array Value) (c : Int) (vW vD : Value) (ws : List Wt) (ds : List Sp) (W : World) : Prop where
  bl : Below b w1 W
  ord : p3 ≠ p6 ∧ b ≤ p3 ∧ b ≤ p6 ∧ b ≤ W.heap.size
  bx : Box W p3 39 #[.int .i64 c, vW, vD]
  ow : KO KW W b 78 vW ws
  od : W.ownsRow b 46 2 vD ds.length (flat spc ds)
  bc : Box W p5 91 Cc
  br : Box W p6 39 #[.int .i64 0, .slice none 0 0, .slice none 0 0]
  kp : ∀ g e cs, g < p3 → ¬ isT e → Box w1 g e cs → Box W g e cs
  lt : p3 < p6
section
variable {w1 W W' : World} {b p3 p5 p6 : Nat} {Cc : Array Value} {c : Int} {vW vD : Value} {ws : List Wt} {ds : List Sp}
theorem PtS.below (h : PtS w1 b p3 p5 p6 Cc c vW vD ws ds W) (hb : Below W.heap.size W W') : PtS w1 b p3 p5 p6 Cc c vW vD ws ds W' :=
  ⟨h.bl.trans (hb.mono h.ord.2.2.2), ⟨h.ord.1, h.ord.2.1, h.ord.2.2.1, Nat.le_trans h.ord.2.2.2 hb.size⟩, h.bx.below hb h.bx.lt, h.ow.below hb, own_below3 h.od hb, h.bc.below hb h.bc.lt, h.br.below hb h.br.lt, fun g e cs hg he hx => (h.kp g e cs hg he hx).below hb (h.kp g e cs hg he hx).lt, h.lt⟩
/-- another row grows, of another type -/
theorem PtS.kept {S : TypeId → Prop} (h : PtS w1 b p3 p5 p6 Cc c vW vD ws ds W) (hk : Kept S W W') (hb : Below b W W') (s1 : ¬ S 39) (s2 : ¬ S 78) (s3 : ¬ S 46) (s4 : ¬ S 91) (s5 : ¬ S 3) (s6 : ∀ e, S e → isT e) : PtS w1 b p3 p5 p6 Cc c vW vD ws ds W' :=
  ⟨h.bl.trans hb, ⟨h.ord.1, h.ord.2.1, h.ord.2.2.1, Nat.le_trans h.ord.2.2.2 hb.size⟩, hk.box _ _ _ s1 h.bx, KO.kept hk s5 s2 h.ow, hk.own h.od s3, hk.box _ _ _ s4 h.bc, hk.box _ _ _ s1 h.br, fun g e cs hg he hx => hk.box _ _ _ (fun hs => he (s6 e hs)) (h.kp g e cs hg he hx), h.lt⟩
/-- a cell of the variable stored -/
theorem PtS.setC (h : PtS w1 b p3 p5 p6 Cc c vW vD ws ds W) (x : Int) : PtS w1 b p3 p5 p6 Cc x vW vD ws ds (W.setCell ⟨p3, 0, none⟩ (.int .i64 x)) ∧ Kept isS W (W.setCell ⟨p3, 0, none⟩ (.int .i64 x)) := by
  have hk : Kept (fun e => e = 39) W (W.setCell ⟨p3, 0, none⟩ (.int .i64 x)) := Kept.set (S := fun e => e = 39) h.bx rfl _
  exact ⟨⟨h.bl.setCell (p := ⟨p3, 0, none⟩) h.ord.2.1 _, ⟨h.ord.1, h.ord.2.1, h.ord.2.2.1, by have := h.ord.2.2.2; simpa using this⟩, by have := h.bx.stored 0 (.int .i64 x); simpa using this, KO.kept hk (by decide) (by decide) h.ow, hk.own h.od (by decide), hk.box _ _ _ (by decide) h.bc, h.br.far (p := ⟨p3, 0, none⟩) (by exact fun e => h.ord.1 e.symm) _, fun g e cs hg he hx => (h.kp g e cs hg he hx).far (p := ⟨p3, 0, none⟩) (Nat.ne_of_lt hg) _, h.lt⟩,
    hk.mono fun e he => .inr (.inr he)⟩
theorem PtS.setW (h : PtS w1 b p3 p5 p6 Cc c vW vD ws ds W) {v2 : Value} {l : List Wt} (h2 : KO KW W b 78 v2 l) : PtS w1 b p3 p5 p6 Cc c v2 vD l ds (W.setCell ⟨p3, 1, none⟩ v2) ∧ Kept isS W (W.setCell ⟨p3, 1, none⟩ v2) := by
  have hk : Kept (fun e => e = 39) W (W.setCell ⟨p3, 1, none⟩ v2) := Kept.set (S := fun e => e = 39) h.bx rfl _
  exact ⟨⟨h.bl.setCell (p := ⟨p3, 1, none⟩) h.ord.2.1 _, ⟨h.ord.1, h.ord.2.1, h.ord.2.2.1, by have := h.ord.2.2.2; simpa using this⟩, by have := h.bx.stored 1 v2; simpa using this, KO.kept hk (by decide) (by decide) h2, hk.own h.od (by decide), hk.box _ _ _ (by decide) h.bc, h.br.far (p := ⟨p3, 1, none⟩) (by exact fun e => h.ord.1 e.symm) _, fun g e cs hg he hx => (h.kp g e cs hg he hx).far (p := ⟨p3, 1, none⟩) (Nat.ne_of_lt hg) _, h.lt⟩,
    hk.mono fun e he => .inr (.inr he)⟩
/-- the row of what was done has grown, and is stored -/
theorem PtS.addD (h : PtS w1 b p3 p5 p6 Cc c vW vD ws ds W) {Wa : World} (hb : Below W.heap.size W Wa) {v2 : Value} {x : Sp} (hg : Wa.grownBy W' vD.ownBlock) (ho : W'.ownsRow b 46 2 v2 (ds.length + 1) (flat spc ds ++ spc x)) :
    PtS w1 b p3 p5 p6 Cc c vW v2 ws (ds ++ [x]) (W'.setCell ⟨p3, 2, none⟩ v2) ∧ Kept isS W (W'.setCell ⟨p3, 2, none⟩ v2) := by
  have ha := h.below hb
  have hk1 : Kept (fun e => e = 46) Wa W' := Kept.grown (S := fun e => e = 46) ha.od rfl hg
  have hB : Below b Wa W' := Below.grown (Below.refl b Wa) hg ha.ord.2.2.2 fun g e => (own_block ha.od e).1
  have hx := hk1.box _ _ _ (by decide) ha.bx
  have hk2 : Kept (fun e => e = 39) W' (W'.setCell ⟨p3, 2, none⟩ v2) := Kept.set (S := fun e => e = 39) hx rfl _
  refine ⟨⟨(ha.bl.trans hB).setCell (p := ⟨p3, 2, none⟩) h.ord.2.1 _, ⟨h.ord.1, h.ord.2.1, h.ord.2.2.1, ?_⟩, by have := hx.stored 2 v2; simpa using this, KO.kept hk2 (by decide) (by decide) (KO.kept hk1 (by decide) (by decide) ha.ow), ?_, hk2.box _ _ _ (by decide) (hk1.box _ _ _ (by decide) ha.bc), ?_, fun g e cs hg he hx => (hk1.box _ _ _ (fun (q : e = 46) => he (.inr (.inl q))) (ha.kp g e cs hg he hx)).far (p := ⟨p3, 2, none⟩) (Nat.ne_of_lt hg) _, h.lt⟩, ?_⟩
  · have h1 := ha.ord.2.2.2
    have h2 := hB.size
    have : (W'.setCell ⟨p3, 2, none⟩ v2).heap.size = W'.heap.size := by simp
    omega
  · rw [flat_append, flat_one, List.length_append]
    exact hk2.own ho (by decide)
  · exact (hk1.box _ _ _ (by decide) ha.br).far (p := ⟨p3, 2, none⟩) (by exact fun e => h.ord.1 e.symm) _
  · exact ((Kept.of_below hb).trans (hk1.mono fun e he => .inr (.inl he))).trans (hk2.mono fun e he => .inr (.inr he))
/-- a cell of what waits stored -/
theorem PtS.storeW {q n d k j : Nat} {x x' : Wt} {u : Value} (h : PtS w1 b p3 p5 p6 Cc c (.slice (some ⟨q, 0, none⟩) n d) vD ws ds W) (hk : ws[k]? = some x) (hj : j < 7) (hx : ∀ A d, KW.cel A d x' = (KW.cel A d x).set j u) (hg : x'.m.gs = x.m.gs) :
    PtS w1 b p3 p5 p6 Cc c (.slice (some ⟨q, 0, none⟩) n d) vD (ws.set k x') ds (W.setCell ⟨q, k * 7 + j, none⟩ u) ∧ Kept isS W (W.setCell ⟨q, k * 7 + j, none⟩ u) := by
  obtain ⟨h1, h2, h3, h4⟩ := h.ow.store hk hj hx hg (by decide)
  exact ⟨⟨h.bl.trans h3, ⟨h.ord.1, h.ord.2.1, h.ord.2.2.1, by have := h.ord.2.2.2; have e : (W.setCell ⟨q, k * 7 + j, none⟩ u).heap.size = W.heap.size := h4; omega⟩, h2.box _ _ _ (by decide) h.bx, h1, h2.own h.od (by decide), h2.box _ _ _ (by decide) h.bc, h2.box _ _ _ (by decide) h.br, fun g e cs hg he hx => h2.box _ _ _ (fun (q : e = 78) => he (.inl q)) (h.kp g e cs hg he hx), h.lt⟩, h2.mono fun e he => .inl he⟩
end
end Go.Proofs.YteebeiaokfenmaaGreat.KP

namespace Go.Proofs.YteebeiaokfenmaaGreat.KP
open Go.RowKit CP TP
open CM (Mg Cm)
open TM (Sp)
open KM (Wt Sk)
set_option linter.unusedVariables false
set_option linter.unusedSimpArgs false
set_option maxRecDepth 100000
/-- the types that change while a command is done -/
def isC (e : TypeId) : Prop := e = 78 ∨ e = 46 ∨ e = 147
theorem isC_int : ¬ isC 3 := by unfold isC; decide
theorem isC_msg : ¬ isC 33 := by unfold isC; decide
/-- the clock in its variable at p; what lies below b is as it was -/
structure PtC (w0 : World) (b p : Nat) (c : Int) (vW vD : Value) (ws : List Wt) (ds : List Sp) (W : World) : Prop where
  bl : Below b w0 W
  ord : b ≤ p ∧ b ≤ W.heap.size
  bx : Box W p 147 #[.int .i64 c, vW, vD]
  ow : KO KW W b 78 vW ws
  od : W.ownsRow b 46 2 vD ds.length (flat spc ds)
section
variable {w0 W W' : World} {b p : Nat} {c : Int} {vW vD : Value} {ws : List Wt} {ds : List Sp}
theorem PtC.below (h : PtC w0 b p c vW vD ws ds W) (hb : Below W.heap.size W W') : PtC w0 b p c vW vD ws ds W' :=
  ⟨h.bl.trans (hb.mono h.ord.2), ⟨h.ord.1, Nat.le_trans h.ord.2 hb.size⟩, h.bx.below hb h.bx.lt, h.ow.below hb, own_below3 h.od hb⟩
theorem PtC.forms (h : PtC w0 b p c vW vD ws ds W) : ∃ A n cw B cd, vW = .slice A ws.length cw ∧ vD = .slice B ds.length cd ∧ n = ws.length := by
  obtain ⟨A, cw, e1, _⟩ := h.ow.g
  obtain ⟨B, cd, e2, _⟩ := own_form h.od
  exact ⟨A, _, cw, B, cd, e1, e2, rfl⟩
theorem PtC.setC (h : PtC w0 b p c vW vD ws ds W) (x : Int) : PtC w0 b p x vW vD ws ds (W.setCell ⟨p, 0, none⟩ (.int .i64 x)) ∧ Kept isC W (W.setCell ⟨p, 0, none⟩ (.int .i64 x)) := by
  have hk : Kept (fun e => e = 147) W (W.setCell ⟨p, 0, none⟩ (.int .i64 x)) := Kept.set (S := fun e => e = 147) h.bx rfl _
  exact ⟨⟨h.bl.setCell (p := ⟨p, 0, none⟩) h.ord.1 _, ⟨h.ord.1, by have := h.ord.2; simpa using this⟩, by have := h.bx.stored 0 (.int .i64 x); simpa using this, KO.kept hk (by decide) (by decide) h.ow, hk.own h.od (by decide)⟩, hk.mono fun e he => .inr (.inr he)⟩
theorem PtC.setW (h : PtC w0 b p c vW vD ws ds W) {v2 : Value} {l : List Wt} (h2 : KO KW W b 78 v2 l) : PtC w0 b p c v2 vD l ds (W.setCell ⟨p, 1, none⟩ v2) ∧ Kept isC W (W.setCell ⟨p, 1, none⟩ v2) := by
  have hk : Kept (fun e => e = 147) W (W.setCell ⟨p, 1, none⟩ v2) := Kept.set (S := fun e => e = 147) h.bx rfl _
  exact ⟨⟨h.bl.setCell (p := ⟨p, 1, none⟩) h.ord.1 _, ⟨h.ord.1, by have := h.ord.2; simpa using this⟩, by have := h.bx.stored 1 v2; simpa using this, KO.kept hk (by decide) (by decide) h2, hk.own h.od (by decide)⟩, hk.mono fun e he => .inr (.inr he)⟩
/-- the row of what waits has turned, and is stored -/
theorem PtC.newW (h : PtC w0 b p c vW vD ws ds W) {Wa : World} (hb : Below W.heap.size W Wa) {v2 : Value} {l : List Wt} (hg : Wa.grownBy W' vW.ownBlock) (h2 : KO KW W' b 78 v2 l) :
    PtC w0 b p c v2 vD l ds (W'.setCell ⟨p, 1, none⟩ v2) ∧ Kept isC W (W'.setCell ⟨p, 1, none⟩ v2) := by
  have ha := h.below hb
  obtain ⟨es, _, ho, _⟩ := ha.ow
  have hk1 : Kept (fun e => e = 78) Wa W' := Kept.grown (S := fun e => e = 78) ho rfl hg
  have hB : Below b Wa W' := Below.grown (Below.refl b Wa) hg ha.ord.2 fun g e => (own_block ho e).1
  have hx := hk1.box _ _ _ (by decide) ha.bx
  have hk2 : Kept (fun e => e = 147) W' (W'.setCell ⟨p, 1, none⟩ v2) := Kept.set (S := fun e => e = 147) hx rfl _
  refine ⟨⟨(ha.bl.trans hB).setCell (p := ⟨p, 1, none⟩) h.ord.1 _, ⟨h.ord.1, ?_⟩, by have := hx.stored 1 v2; simpa using this, KO.kept hk2 (by decide) (by decide) h2, hk2.own (hk1.own ha.od (by decide)) (by decide)⟩, ?_⟩
  · have h1 := ha.ord.2
    have h2 := hB.size
    have : (W'.setCell ⟨p, 1, none⟩ v2).heap.size = W'.heap.size := by simp
    omega
  · exact ((Kept.of_below hb).trans (hk1.mono fun e he => .inl he)).trans (hk2.mono fun e he => .inr (.inr he))
/-- the row of what was done has grown, and is stored -/
theorem PtC.addD (h : PtC w0 b p c vW vD ws ds W) {Wa : World} (hb : Below W.heap.size W Wa) {v2 : Value} {x : Sp} (hg : Wa.grownBy W' vD.ownBlock) (ho : W'.ownsRow b 46 2 v2 (ds.length + 1) (flat spc ds ++ spc x)) :
    PtC w0 b p c vW v2 ws (ds ++ [x]) (W'.setCell ⟨p, 2, none⟩ v2) ∧ Kept isC W (W'.setCell ⟨p, 2, none⟩ v2) := by
  have ha := h.below hb
  have hk1 : Kept (fun e => e = 46) Wa W' := Kept.grown (S := fun e => e = 46) ha.od rfl hg
  have hB : Below b Wa W' := Below.grown (Below.refl b Wa) hg ha.ord.2 fun g e => (own_block ha.od e).1
  have hx := hk1.box _ _ _ (by decide) ha.bx
  have hk2 : Kept (fun e => e = 147) W' (W'.setCell ⟨p, 2, none⟩ v2) := Kept.set (S := fun e => e = 147) hx rfl _
  refine ⟨⟨(ha.bl.trans hB).setCell (p := ⟨p, 2, none⟩) h.ord.1 _, ⟨h.ord.1, ?_⟩, by have := hx.stored 2 v2; simpa using this, KO.kept hk2 (by decide) (by decide) (KO.kept hk1 (by decide) (by decide) ha.ow), ?_⟩, ?_⟩
  · have h1 := ha.ord.2
    have h2 := hB.size
    have : (W'.setCell ⟨p, 2, none⟩ v2).heap.size = W'.heap.size := by simp
    omega
  · rw [flat_append, flat_one, List.length_append]
    exact hk2.own ho (by decide)
  · exact ((Kept.of_below hb).trans (hk1.mono fun e he => .inr (.inl he))).trans (hk2.mono fun e he => .inr (.inr he))
/-- a cell of what waits stored -/
theorem PtC.storeW {q n d k j : Nat} {x x' : Wt} {u : Value} (h : PtC w0 b p c (.slice (some ⟨q, 0, none⟩) n d) vD ws ds W) (hk : ws[k]? = some x) (hj : j < 7) (hx : ∀ A d, KW.cel A d x' = (KW.cel A d x).set j u) (hg : x'.m.gs = x.m.gs) :
    PtC w0 b p c (.slice (some ⟨q, 0, none⟩) n d) vD (ws.set k x') ds (W.setCell ⟨q, k * 7 + j, none⟩ u) ∧ Kept isC W (W.setCell ⟨q, k * 7 + j, none⟩ u) := by
  obtain ⟨h1, h2, h3, h4⟩ := h.ow.store hk hj hx hg (by decide)
  exact ⟨⟨h.bl.trans h3, ⟨h.ord.1, by have := h.ord.2; have e : (W.setCell ⟨q, k * 7 + j, none⟩ u).heap.size = W.heap.size := h4; omega⟩, h2.box _ _ _ (by decide) h.bx, h1, h2.own h.od (by decide)⟩, h2.mono fun e he => .inl he⟩
end
/-- the cells of one that waits, and that they may be stored into -/
theorem wtc_store {w : World} {b : Nat} {T : TypeId} {l : List Wt} {q n c k : Nat} {x : Wt} (h : KO KW w b T (.slice (some ⟨q, 0, none⟩) n c) l) (hk : l[k]? = some x) :
    ∃ B d, At7 w q (k * 7) B d x ∧ (∀ i, w.frozen? ⟨q, i, none⟩ = false) ∧ RowGe w b B d x.m.gs := by
  obtain ⟨B, d, h1, h2, h3⟩ := h.cellAt hk
  exact ⟨B, d, ⟨h1 0 _ rfl, h1 1 _ rfl, h1 2 _ rfl, h1 3 _ rfl, h1 4 _ rfl, h1 5 _ rfl, h1 6 _ rfl⟩, h2, h3⟩
end Go.Proofs.YteebeiaokfenmaaGreat.KP

namespace Go.Proofs.YteebeiaokfenmaaGreat.KP
open Go.RowKit CP TP
open CM (Mg Cm)
open TM (Sp)
open KM (Wt Sk)
set_option linter.unusedVariables false
set_option linter.unusedSimpArgs false
set_option maxRecDepth 100000
theorem flat_takeK {α : Type} {f : α → List Value} {s : Nat} : ∀ (l : List α) (k : Nat), (∀ a ∈ l, (f a).length = s) → (flat f l).take (k * s) = flat f (l.take k)
  | [], k, _ => by simp [flat]
  | a :: l, 0, _ => by simp [flat]
  | a :: l, k + 1, h => by
    have ha := h a (List.mem_cons_self ..)
    rw [flat_cons, List.take_succ_cons, flat_cons, Nat.add_mul, Nat.one_mul, List.take_append, ha, List.take_of_length_le (by omega), Nat.add_sub_cancel, flat_takeK l k (fun b hb => h b (List.mem_cons_of_mem _ hb))]
theorem flat_dropK {α : Type} {f : α → List Value} {s : Nat} : ∀ (l : List α) (k : Nat), (∀ a ∈ l, (f a).length = s) → (flat f l).drop (k * s) = flat f (l.drop k)
  | [], k, _ => by simp [flat]
  | a :: l, 0, _ => by simp [flat]
  | a :: l, k + 1, h => by
    have ha := h a (List.mem_cons_self ..)
    rw [flat_cons, List.drop_succ_cons, Nat.add_mul, Nat.one_mul, List.drop_append, ha, List.drop_eq_nil_of_le (by omega), List.nil_append, Nat.add_sub_cancel, flat_dropK l k (fun b hb => h b (List.mem_cons_of_mem _ hb))]
section
variable {α : Type} {K : Kd α} {w w' : World} {b : Nat} {T : TypeId} {v v2 : Value} {l : List α}
/-- whatever elements whose rows lie there make one -/
theorem kO_of (es : List (Ex α)) (ho : w.ownsRow b T K.s v es.length (flat (exc K) es)) (hr : ∀ e ∈ es, RowGe w b e.A e.c (K.gs e.x)) (hT : T ≠ 3) : KO K w b T v (es.map Ex.x) :=
  ⟨es, rfl, ho, fun e he => ⟨hr e he, fun ad ea hn k => by
    obtain ⟨g, cur, e1, _, e3, _⟩ := (hr e he).3 hn
    rw [ea] at e1
    injection e1 with e1
    rw [e1] at k
    exact own_ne ho e3 hT k.symm⟩⟩
theorem kO_ins {i n : Nat} {x : α} {A : Option Addr} {c : Nat} (es : List (Ex α)) (hn : es.length = n) (hi : i ≤ n) (hr : ∀ e ∈ es, RowGe w b e.A e.c (K.gs e.x) ∧ ∀ ad, e.A = some ad → 0 < (K.gs e.x).length → v.ownBlock ≠ some ad.block)
    (h1 : RowGe w b A c (K.gs x)) (n1 : ∀ ad, A = some ad → 0 < (K.gs x).length → v.ownBlock ≠ some ad.block) (hg : w.grownBy w' v.ownBlock)
    (ho : w'.ownsRow b T K.s v2 (n + 1) ((flat (exc K) es).take (i * K.s) ++ K.cel A c x ++ (flat (exc K) es).drop (i * K.s))) (hT : T ≠ 3) : KO K w' b T v2 ((es.map Ex.x).take i ++ [x] ++ (es.map Ex.x).drop i) := by
  have he : (es.map Ex.x).take i ++ [x] ++ (es.map Ex.x).drop i = (es.take i ++ [(⟨A, c, x⟩ : Ex α)] ++ es.drop i).map Ex.x := by simp
  have hl : (es.take i ++ [(⟨A, c, x⟩ : Ex α)] ++ es.drop i).length = n + 1 := by simp; omega
  rw [he]
  refine kO_of _ ?_ (fun e hm => ?_) hT
  · rw [hl, flat_append, flat_append, flat_one, ← flat_takeK es i (exc_len K es), ← flat_dropK es i (exc_len K es)]
    exact ho
  · rw [List.mem_append, List.mem_append, List.mem_singleton] at hm
    rcases hm with (hm | rfl) | hm
    · obtain ⟨g1, g2⟩ := hr e (List.mem_of_mem_take hm)
      exact rowGe_grown g1 hg g2
    · exact rowGe_grown h1 hg n1
    · obtain ⟨g1, g2⟩ := hr e (List.mem_of_mem_drop hm)
      exact rowGe_grown g1 hg g2
theorem kO_del {i n : Nat} (es : List (Ex α)) (hn : es.length = n) (hi : i < n) (hr : ∀ e ∈ es, RowGe w b e.A e.c (K.gs e.x) ∧ ∀ ad, e.A = some ad → 0 < (K.gs e.x).length → v.ownBlock ≠ some ad.block)
    (hg : w.grownBy w' v.ownBlock) (ho : w'.ownsRow b T K.s v2 (n - 1) ((flat (exc K) es).take (i * K.s) ++ (flat (exc K) es).drop ((i + 1) * K.s))) (hT : T ≠ 3) : KO K w' b T v2 ((es.map Ex.x).eraseIdx i) := by
  have he : (es.map Ex.x).eraseIdx i = (es.take i ++ es.drop (i + 1)).map Ex.x := by rw [List.eraseIdx_eq_take_drop_succ]; simp
  have hl : (es.take i ++ es.drop (i + 1)).length = n - 1 := by simp; omega
  rw [he]
  refine kO_of _ ?_ (fun e hm => ?_) hT
  · rw [hl, flat_append, ← flat_takeK es i (exc_len K es), ← flat_dropK es (i + 1) (exc_len K es)]
    exact ho
  · rw [List.mem_append] at hm
    rcases hm with hm | hm
    · obtain ⟨g1, g2⟩ := hr e (List.mem_of_mem_take hm)
      exact rowGe_grown g1 hg g2
    · obtain ⟨g1, g2⟩ := hr e (List.mem_of_mem_drop hm)
      exact rowGe_grown g1 hg g2
end
end Go.Proofs.YteebeiaokfenmaaGreat.KP
