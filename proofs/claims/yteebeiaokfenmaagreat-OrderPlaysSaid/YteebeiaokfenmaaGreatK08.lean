/-
  Rows of structs that hold one slice of ints (messages, what waits) in memory: read, from a block on, owned. A clock by value. No walk.
  What package stamp answers: order, ids and whose they are, whether a stamp may be. Conditions: as each theorem says.
  A list of texts, a list of commands in memory: a command is twelve cells of a row, two of them slices of ints. No walk.
  What Read of a command answers: forms of it (no program). No walk.
  The document's own Great of logs (towncrierref16). Conditions: rows of texts that read.
  What the document's own Less of stamps answers (towncrierref14). Conditions: as each theorem says.
-/
import Derived.Test.YteebeiaokfenmaaGreatK07
import Derived.Test.YteebeiaokfenmaaGreatK03
import Derived.Test.YteebeiaokfenmaaGreatK01
import Derived.Test.YteebeiaokfenmaaGreatK04
import Derived.Deep.QuietTactic
import Derived.BigQuiet
import Derived.Deep.RegionHeld3
import Derived.Deep.DeepCutAuto
import Derived.Lib.MinMax
import Derived.Test.YteebeiaokfenmaaGreatProg
import Derived.WalkKit
namespace Go.Proofs.YteebeiaokfenmaaGreat.KP
open Go.RowKit CP TP
open CM (Mg Cm)
open TM (Sp)
open KM (Wt Sk)
set_option linter.unusedVariables false
set_option linter.unusedSimpArgs false
structure Kd (α : Type) where
 s : Nat
 gs : α → List Int
 cel : Option Addr → Nat → α → List Value
 pos : 0 < s
 len : ∀ A c x, (cel A c x).length = s
 one : ∀ A c x, ∀ u ∈ cel A c x, u.oneCell' = true
structure Ex (α : Type) where
 A : Option Addr
 c : Nat
 x : α
section
variable {α : Type} (K : Kd α)
def exc (e : Ex α) : List Value := K.cel e.A e.c e.x
theorem exc_len (l : List (Ex α)) : ∀ e ∈ l, (exc K e).length = K.s := fun e _ => K.len _ _ _
theorem flat_exc (l : List (Ex α)) : (flat (exc K) l).length = l.length * K.s := flat_length (exc_len K l)
theorem exc_one (l : List (Ex α)) : ∀ u ∈ flat (exc K) l, u.oneCell' = true := one_flat (fun e => K.one _ _ _) l
def KR (w : World) (A : Option Addr) (n c : Nat) (l : List α) : Prop :=
 ∃ es : List (Ex α), es.map Ex.x = l ∧ RdG w K.s A n (flat (exc K) es) ∧ es.length = n ∧ n ≤ c ∧ c ≤ maxLen ∧ ∀ e ∈ es, RowIs w e.A e.c (K.gs e.x)
def KG (w : World) (b : Nat) (A : Option Addr) (n c : Nat) (l : List α) : Prop :=
 ∃ es : List (Ex α), es.map Ex.x = l ∧ RdG w K.s A n (flat (exc K) es) ∧ es.length = n ∧ n ≤ c ∧ c ≤ maxLen ∧ ∀ e ∈ es, RowGe w b e.A e.c (K.gs e.x)
def KO (w : World) (b : Nat) (T : TypeId) (v : Value) (l : List α) : Prop :=
 ∃ es : List (Ex α), es.map Ex.x = l ∧ w.ownsRow b T K.s v es.length (flat (exc K) es) ∧ ∀ e ∈ es, RowGe w b e.A e.c (K.gs e.x) ∧ ∀ ad, e.A = some ad → 0 < (K.gs e.x).length → v.ownBlock ≠ some ad.block
variable {K} {w w' : World} {b n c : Nat} {A : Option Addr} {l : List α} {T : TypeId} {v : Value}
theorem KR.len (h : KR K w A n c l) : l.length = n := by obtain ⟨es, rfl, _, h, _⟩ := h; rw [List.length_map]; exact h
theorem KR.le (h : KR K w A n c l) : n ≤ c ∧ c ≤ maxLen := by obtain ⟨es, _, _, _, h1, h2, _⟩ := h; exact ⟨h1, h2⟩
theorem KR.small (h : KR K w A n c l) : n ≤ 9223372036854775807 := by
 have := h.le
 unfold maxLen at this
 omega
theorem KR.below (h : KR K w A n c l) (hb : Below w.heap.size w w') : KR K w' A n c l := by
 obtain ⟨es, h1, h2, h3, h4, h5, h6⟩ := h
 exact ⟨es, h1, h2.below hb, h3, h4, h5, fun e he => (h6 e he).below hb⟩
theorem KG.r (h : KG K w b A n c l) : KR K w A n c l := by
 obtain ⟨es, h1, h2, h3, h4, h5, h6⟩ := h
 exact ⟨es, h1, h2, h3, h4, h5, fun e he => (h6 e he).1⟩
theorem KO.below (h : KO K w b T v l) (hb : Below w.heap.size w w') : KO K w' b T v l := by
 obtain ⟨es, h1, h2, h3⟩ := h
 exact ⟨es, h1, own_below3 h2 hb, fun e he => ⟨(h3 e he).1.below hb, (h3 e he).2⟩⟩
theorem KO.mono {b' : Nat} (h : KO K w b T v l) (hb : b' ≤ b) : KO K w b' T v l := by
 obtain ⟨es, h1, h2, h3⟩ := h
 exact ⟨es, h1, own_base h2 hb, fun e he => ⟨(h3 e he).1.mono hb, (h3 e he).2⟩⟩
theorem rdg_own {base s n c : Nat} {e : TypeId} {A : Option Addr} {xs : List Value} (h : w.ownsRow base e s (.slice A n c) n xs) : RdG w s A n xs := by
 refine ⟨h.1, fun hn => ?_⟩
 obtain ⟨g, cap, hv, _, hlt⟩ := h.form hn
 have hA : A = some ⟨g, 0, none⟩ := by injection hv
 subst hA
 exact ⟨_, rfl, hlt, h.cells (g := g) rfl⟩
theorem KO.g (h : KO K w b T v l) : ∃ A c, v = .slice A l.length c ∧ KG K w b A l.length c l := by
 obtain ⟨es, rfl, h2, h3⟩ := h
 obtain ⟨A, c, rfl, h4, h5⟩ := own_form h2
 rw [List.length_map]
 exact ⟨A, c, rfl, es, rfl, rdg_own h2, rfl, h4, h5, fun e he => (h3 e he).1⟩
variable (K) in
theorem kO_nil (w : World) (b : Nat) (T : TypeId) : KO K w b T (.slice none 0 0) [] := ⟨[], rfl, World.ownsRow_nil _ _ _ _, fun e he => by cases he⟩
theorem KR.at_ (h : KR K w A n c l) {k : Nat} {x : α} (hk : l[k]? = some x) : ∃ bl o B d, A = some ⟨bl, o, none⟩ ∧ k < n ∧ bl < w.heap.size ∧
  (∀ j u, (K.cel B d x)[j]? = some u → w.cell? ⟨bl, o + k * K.s + j, none⟩ = some u) ∧ RowIs w B d (K.gs x) := by
 obtain ⟨es, rfl, h2, h3, _, _, h6⟩ := h
 rw [List.getElem?_map] at hk
 rcases he : es[k]? with _ | e
 ·rw [he] at hk; cases hk
 ·rw [he] at hk
  injection hk with hk
  subst hk
  have hkl := (List.getElem?_eq_some_iff.1 he).1
  have hs := K.pos
  obtain ⟨ad, ea, hb, hc⟩ := h2.2 (by omega)
  have hp : 0 < (flat (exc K) es).length := by rw [flat_exc]; exact Nat.mul_pos (by omega) hs
  have h0 := hc 0 _ (List.getElem?_eq_getElem hp)
  rw [show ad.add 0 = ad from by simp [Addr.add]] at h0
  have hsp := spot_none h0
  obtain ⟨bl, o, sp⟩ := ad
  simp only at hsp
  subst hsp
  refine ⟨bl, o, e.A, e.c, ea, by omega, hb, fun j u hu => ?_, h6 e (List.mem_of_getElem? he)⟩
  have hj := (List.getElem?_eq_some_iff.1 hu).1
  rw [K.len] at hj
  have := hc (k * K.s + j) u (by rw [flat_get (exc_len K es) he j hj]; exact hu)
  rw [add_none] at this
  rw [Nat.add_assoc]
  exact this
theorem KG.at_ (h : KG K w b A n c l) {k : Nat} {x : α} (hk : l[k]? = some x) : ∃ bl o B d, A = some ⟨bl, o, none⟩ ∧ k < n ∧ bl < w.heap.size ∧
  (∀ j u, (K.cel B d x)[j]? = some u → w.cell? ⟨bl, o + k * K.s + j, none⟩ = some u) ∧ RowGe w b B d (K.gs x) := by
 obtain ⟨es, rfl, h2, h3, _, _, h6⟩ := h
 rw [List.getElem?_map] at hk
 rcases he : es[k]? with _ | e
 ·rw [he] at hk; cases hk
 ·rw [he] at hk
  injection hk with hk
  subst hk
  have hkl := (List.getElem?_eq_some_iff.1 he).1
  have hs := K.pos
  obtain ⟨ad, ea, hb, hc⟩ := h2.2 (by omega)
  have hp : 0 < (flat (exc K) es).length := by rw [flat_exc]; exact Nat.mul_pos (by omega) hs
  have h0 := hc 0 _ (List.getElem?_eq_getElem hp)
  rw [show ad.add 0 = ad from by simp [Addr.add]] at h0
  have hsp := spot_none h0
  obtain ⟨bl, o, sp⟩ := ad
  simp only at hsp
  subst hsp
  refine ⟨bl, o, e.A, e.c, ea, by omega, hb, fun j u hu => ?_, h6 e (List.mem_of_getElem? he)⟩
  have hj := (List.getElem?_eq_some_iff.1 hu).1
  rw [K.len] at hj
  have := hc (k * K.s + j) u (by rw [flat_get (exc_len K es) he j hj]; exact hu)
  rw [add_none] at this
  rw [Nat.add_assoc]
  exact this
theorem row_lt {A : Option Addr} {c : Nat} {L : List Int} {ad : Addr} (hR : RowIs w A c L) (e : A = some ad) (hn : 0 < L.length) : ad.block < w.heap.size := by
 obtain ⟨a, e2, hB, _⟩ := hR.1.2 hn
 rw [e] at e2; injection e2 with e2; rw [e2]; exact hB
theorem rowGe_grown {A : Option Addr} {c : Nat} {L : List Int} {r : Option Nat} (h : RowGe w b A c L) (hg : w.grownBy w' r) (hr : ∀ ad, A = some ad → 0 < L.length → r ≠ some ad.block) : RowGe w' b A c L :=
 ⟨⟨h.1.1.grown hg fun ad e hn k => hr ad e hn k.symm, h.1.2⟩, h.2, h.3.grown hg hr⟩
theorem kO_next {v2 : Value} {x : α} (es : List (Ex α)) (hl : es.map Ex.x = l) (hr : ∀ e ∈ es, RowGe w b e.A e.c (K.gs e.x) ∧ ∀ ad, e.A = some ad → 0 < (K.gs e.x).length → v.ownBlock ≠ some ad.block) {A : Option Addr} {c : Nat}
  (h1 : RowGe w b A c (K.gs x)) (n1 : ∀ ad, A = some ad → 0 < (K.gs x).length → v.ownBlock ≠ some ad.block)
  (hg : w.grownBy w' v.ownBlock) (ho : w'.ownsRow b T K.s v2 (es.length + 1) (flat (exc K) es ++ K.cel A c x)) (hob : v2.ownBlock = v.ownBlock ∨ v2.ownBlock = some w.heap.size) : KO K w' b T v2 (l ++ [x]) := by
 refine ⟨es ++ [⟨A, c, x⟩], by simp [hl], by rw [flat_append, flat_one, List.length_append]; exact ho, fun e he => ?_⟩
 have hfin : ∀ ad : Addr, ad.block < w.heap.size → v.ownBlock ≠ some ad.block → v2.ownBlock ≠ some ad.block := fun ad hlt hne => by
  rcases hob with k | k
  ·rw [k]; exact hne
  ·rw [k]; intro q; injection q with q; omega
 rcases List.mem_append.1 he with he | he
 ·obtain ⟨g1, g2⟩ := hr e he
  exact ⟨rowGe_grown g1 hg g2, fun ad e1 hn => hfin ad (row_lt g1.1 e1 hn) (g2 ad e1 hn)⟩
 ·obtain rfl := List.mem_singleton.1 he
  exact ⟨rowGe_grown h1 hg n1, fun ad e1 hn => hfin ad (row_lt h1.1 e1 hn) (n1 ad e1 hn)⟩
end
def KW : Kd Wt := ⟨7, fun x => x.m.gs, fun A c x => [.int .i64 x.m.id, .slice A x.m.gs.length c, .int .i64 x.m.tp, .string x.m.key, .string x.m.body, .int .i64 x.t, .bool x.f], by omega, fun _ _ _ => rfl, fun A c x u hu => by
 simp only [List.mem_cons, List.not_mem_nil, or_false] at hu
 rcases hu with rfl | rfl | rfl | rfl | rfl | rfl | rfl <;> rfl⟩
def KM_ : Kd Mg := ⟨5, fun x => x.gs, fun A c x => [.int .i64 x.id, .slice A x.gs.length c, .int .i64 x.tp, .string x.key, .string x.body], by omega, fun _ _ _ => rfl, fun A c x u hu => by
 simp only [List.mem_cons, List.not_mem_nil, or_false] at hu
 rcases hu with rfl | rfl | rfl | rfl | rfl <;> rfl⟩
def vwt (A : Option Addr) (c : Nat) (x : Wt) : Value := .agg #[.int .i64 x.m.id, .slice A x.m.gs.length c, .int .i64 x.m.tp, .string x.m.key, .string x.m.body, .int .i64 x.t, .bool x.f]
def At7 (W : World) (b o : Nat) (B : Option Addr) (d : Nat) (x : Wt) : Prop :=
 W.cell? ⟨b, o, none⟩ = some (.int .i64 x.m.id) ∧ W.cell? ⟨b, o + 1, none⟩ = some (.slice B x.m.gs.length d) ∧ W.cell? ⟨b, o + 2, none⟩ = some (.int .i64 x.m.tp) ∧ W.cell? ⟨b, o + 3, none⟩ = some (.string x.m.key) ∧
  W.cell? ⟨b, o + 4, none⟩ = some (.string x.m.body) ∧ W.cell? ⟨b, o + 5, none⟩ = some (.int .i64 x.t) ∧ W.cell? ⟨b, o + 6, none⟩ = some (.bool x.f)
theorem at7_of {W : World} {b o : Nat} {B : Option Addr} {d : Nat} {x : Wt} (h : ∀ j u, (KW.cel B d x)[j]? = some u → W.cell? ⟨b, o + j, none⟩ = some u) : At7 W b o B d x :=
 ⟨h 0 _ rfl, h 1 _ rfl, h 2 _ rfl, h 3 _ rfl, h 4 _ rfl, h 5 _ rfl, h 6 _ rfl⟩
theorem At7.below {W W' : World} {b o n₀ : Nat} {B : Option Addr} {d : Nat} {x : Wt} (h : At7 W b o B d x) (hb : b < n₀) (hB : Below n₀ W W') : At7 W' b o B d x := by
 obtain ⟨h0, h1, h2, h3, h4, h5, h6⟩ := h
 exact ⟨(hB.cell (p := ⟨b, o, none⟩) hb).trans h0, (hB.cell (p := ⟨b, o + 1, none⟩) hb).trans h1, (hB.cell (p := ⟨b, o + 2, none⟩) hb).trans h2, (hB.cell (p := ⟨b, o + 3, none⟩) hb).trans h3,
  (hB.cell (p := ⟨b, o + 4, none⟩) hb).trans h4, (hB.cell (p := ⟨b, o + 5, none⟩) hb).trans h5, (hB.cell (p := ⟨b, o + 6, none⟩) hb).trans h6⟩
def At5 (W : World) (b o : Nat) (B : Option Addr) (d : Nat) (x : Mg) : Prop :=
 W.cell? ⟨b, o, none⟩ = some (.int .i64 x.id) ∧ W.cell? ⟨b, o + 1, none⟩ = some (.slice B x.gs.length d) ∧ W.cell? ⟨b, o + 2, none⟩ = some (.int .i64 x.tp) ∧ W.cell? ⟨b, o + 3, none⟩ = some (.string x.key) ∧
  W.cell? ⟨b, o + 4, none⟩ = some (.string x.body)
theorem at5_of {W : World} {b o : Nat} {B : Option Addr} {d : Nat} {x : Mg} (h : ∀ j u, (KM_.cel B d x)[j]? = some u → W.cell? ⟨b, o + j, none⟩ = some u) : At5 W b o B d x :=
 ⟨h 0 _ rfl, h 1 _ rfl, h 2 _ rfl, h 3 _ rfl, h 4 _ rfl⟩
theorem wts_at {w : World} {A : Option Addr} {n c k : Nat} {l : List Wt} {x : Wt} (h : KR KW w A n c l) (hk : l[k]? = some x) : ∃ bl o B d, A = some ⟨bl, o, none⟩ ∧ k < n ∧ bl < w.heap.size ∧ At7 w bl (o + k * 7) B d x ∧ RowIs w B d x.m.gs := by
 obtain ⟨bl, o, B, d, h1, h2, h3, h4, h5⟩ := h.at_ hk
 exact ⟨bl, o, B, d, h1, h2, h3, at7_of h4, h5⟩
theorem wtsG_at {w : World} {b : Nat} {A : Option Addr} {n c k : Nat} {l : List Wt} {x : Wt} (h : KG KW w b A n c l) (hk : l[k]? = some x) : ∃ bl o B d, A = some ⟨bl, o, none⟩ ∧ k < n ∧ bl < w.heap.size ∧ At7 w bl (o + k * 7) B d x ∧ RowGe w b B d x.m.gs := by
 obtain ⟨bl, o, B, d, h1, h2, h3, h4, h5⟩ := h.at_ hk
 exact ⟨bl, o, B, d, h1, h2, h3, at7_of h4, h5⟩
theorem mgs_at {w : World} {A : Option Addr} {n c k : Nat} {l : List Mg} {x : Mg} (h : KR KM_ w A n c l) (hk : l[k]? = some x) : ∃ bl o B d, A = some ⟨bl, o, none⟩ ∧ k < n ∧ bl < w.heap.size ∧ At5 w bl (o + k * 5) B d x ∧ RowIs w B d x.gs := by
 obtain ⟨bl, o, B, d, h1, h2, h3, h4, h5⟩ := h.at_ hk
 exact ⟨bl, o, B, d, h1, h2, h3, at5_of h4, h5⟩
def vsk (c : Int) (vw vd : Value) : Value := .agg #[.int .i64 c, vw, vd]
def SkIs (w : World) (v : Value) (s : Sk) : Prop := ∃ A c B d, v = vsk s.c (.slice A s.ws.length c) (.slice B s.ds.length d) ∧ KR KW w A s.ws.length c s.ws ∧ SpsIs w B s.ds.length d s.ds
theorem SkIs.below {w w' : World} {v : Value} {s : Sk} (h : SkIs w v s) (hb : Below w.heap.size w w') : SkIs w' v s := by
 obtain ⟨A, c, B, d, e, h1, h2⟩ := h
 exact ⟨A, c, B, d, e, h1.below hb, h2.below hb⟩
def SkO (w : World) (b : Nat) (v : Value) (s : Sk) : Prop := ∃ vw vd, v = vsk s.c vw vd ∧ KO KW w b 78 vw s.ws ∧ w.ownsRow b 46 2 vd s.ds.length (flat spc s.ds)
theorem SkO.below {w w' : World} {b : Nat} {v : Value} {s : Sk} (h : SkO w b v s) (hb : Below w.heap.size w w') : SkO w' b v s := by
 obtain ⟨vw, vd, e, h1, h2⟩ := h
 exact ⟨vw, vd, e, h1.below hb, own_below3 h2 hb⟩
theorem SkO.mono {w : World} {b b' : Nat} {v : Value} {s : Sk} (h : SkO w b v s) (hb : b' ≤ b) : SkO w b' v s := by
 obtain ⟨vw, vd, e, h1, h2⟩ := h
 exact ⟨vw, vd, e, h1.mono hb, own_base h2 hb⟩
theorem SkO.is {w : World} {b : Nat} {v : Value} {s : Sk} (h : SkO w b v s) : SkIs w v s := by
 obtain ⟨vw, vd, rfl, h1, h2⟩ := h
 obtain ⟨A, c, rfl, h3⟩ := h1.g
 obtain ⟨B, d, rfl, h4, h5⟩ := own_form h2
 exact ⟨A, c, B, d, rfl, h3.r, ⟨rdg_own h2, rfl, h4, h5⟩⟩
theorem skO_zero (w : World) (b : Nat) : SkO w b (.agg #[.int .i64 0, .slice none 0 0, .slice none 0 0]) KM.zero := ⟨_, _, rfl, kO_nil KW w b _, World.ownsRow_nil _ _ _ _⟩
theorem box_sk {w : World} {g : Nat} {t : TypeId} {a b c : Value} (h : Box w g t #[a, b, c]) : w.cell? ⟨g, 0, none⟩ = some a ∧ w.cell? ⟨g, 1, none⟩ = some b ∧ w.cell? ⟨g, 2, none⟩ = some c := ⟨h.cell 0, h.cell 1, h.cell 2⟩
theorem box_wt {w : World} {g : Nat} {t : TypeId} {a0 a1 a2 a3 a4 a5 a6 : Value} (h : Box w g t #[a0, a1, a2, a3, a4, a5, a6]) :
  w.cell? ⟨g, 0, none⟩ = some a0 ∧ w.cell? ⟨g, 1, none⟩ = some a1 ∧ w.cell? ⟨g, 2, none⟩ = some a2 ∧ w.cell? ⟨g, 3, none⟩ = some a3 ∧ w.cell? ⟨g, 4, none⟩ = some a4 ∧ w.cell? ⟨g, 5, none⟩ = some a5 ∧ w.cell? ⟨g, 6, none⟩ = some a6 :=
 ⟨h.cell 0, h.cell 1, h.cell 2, h.cell 3, h.cell 4, h.cell 5, h.cell 6⟩
end Go.Proofs.YteebeiaokfenmaaGreat.KP

namespace Go.Proofs.YteebeiaokfenmaaGreat.TP
open Go.RowKit
open TM (Sp)
set_option linter.unusedVariables false
set_option linter.unusedSimpArgs false
set_option maxRecDepth 100000
set_option maxHeartbeats 2000000 in
theorem pless_any (a b : Sp) (w : World) : Calls Tryz.prog 54 #[vsp a, vsp b] w (IsB (TM.less a b) w) := by
 have HR := h! (TM.less_cmp a b)
 generalize TM.less a b = r at HR ⊢
 obtain ⟨z, hz⟩ : ∃ z, z = TM.cmpI a.t b.t := ⟨_, rfl⟩
 obtain ⟨y, hy⟩ : ∃ y, y = TM.cmpI a.i b.i := ⟨_, rfl⟩
 have C1 := h! (fun w => compare_any a.t b.t w)
 have C2 := h! (fun w => compare_any a.i b.i w)
 rw [← hz] at C1 HR
 rw [← hy] at C2 HR
 obtain ⟨x, hx⟩ : ∃ x, x = TM.orI z y := ⟨_, rfl⟩
 rw [← hx] at HR
 have HX := h! hx
 clear hz hy hx
 unfold vsp
 obtain ⟨at_, ai⟩ := a
 obtain ⟨bt, bi⟩ := b
 simp only at C1 C2 ⊢
 have HB := h! (show Below w.heap.size w ((w.alloc (.cells #[.int .i64 at_, .int .i64 ai] 46)).alloc (.cells #[.int .i64 bt, .int .i64 bi] 46)) from
  ((Below.refl _ _).alloc n! _).alloc (by simp) _)
 have X := h! ((Box.new w 46 #[.int .i64 at_, .int .i64 ai]).alloc (.cells #[.int .i64 bt, .int .i64 bi] 46))
 have Y := h! (Box.new_at (w := w.alloc (.cells #[.int .i64 at_, .int .i64 ai] 46)) (t := 46) (cs := #[.int .i64 bt, .int .i64 bi]) (w.heap.size + 1) (by simp))
 go_enter Tryz.func54, Tryz.ntmps54
 go_upto_region 1 with (fail)
 generalize (w.alloc (.cells #[.int .i64 at_, .int .i64 ai] 46)).alloc (.cells #[.int .i64 bt, .int .i64 bi] 46) = w1 at HB X Y ⊢
 generalize hg : w.heap.size = g at X Y ⊢
 have HG := h! hg
 clear hg
 have HSS := h! (fun (w' : World) (h : Below w1.heap.size w1 w') => show w'.cell? ⟨g, 0, none⟩ = some (.int .i64 at_) ∧ w'.cell? ⟨g, 1, none⟩ = some (.int .i64 ai) ∧ w'.cell? ⟨g + 1, 0, none⟩ = some (.int .i64 bt) ∧ w'.cell? ⟨g + 1, 1, none⟩ = some (.int .i64 bi) from
  ⟨(X.out.below h X.out.lt).cell 0, (X.out.below h X.out.lt).cell 1, (Y.out.below h Y.out.lt).cell 0, (Y.out.below h Y.out.lt).cell 1⟩)
 obtain ⟨_, _, _, _⟩ := HSS.out w1 (Below.refl _ _)
 have bb1 : Below w1.heap.size w1 w1.drew := (Below.refl _ _).drew
 go_region_held3 (fun w' => w'.cell? ⟨g, 0, none⟩ = some (.int .i64 at_) ∧ w'.cell? ⟨g, 1, none⟩ = some (.int .i64 ai) ∧ w'.cell? ⟨g + 1, 0, none⟩ = some (.int .i64 bt) ∧ w'.cell? ⟨g + 1, 1, none⟩ = some (.int .i64 bi))
  (first | exact HSS.out _ bb1 | exact HSS.out _ (bb1.alloc bb1.size _) | go_keep)
  (first
   | (go_at_call 82; (first | (with_reducible refine (C1.out _).mono ?_) | (with_reducible refine (C2.out _).mono ?_)); rintro e w' ⟨rfl, rfl⟩)
   | (go_at_call 81; refine (or_any w1.heap.size z y x _ (Box.new w1.drew _ _) HX.out).mono ?_; rintro e w' ⟨rfl, rfl⟩))
 all_goals
  go_wp2_with fail
  go_ret
  exact ⟨by first | rfl | (rw [← HR.out]; rfl), HB.out.trans ((bb1.alloc bb1.size _).mono HB.out.size)⟩
theorem pmay_any (s n : Int) (w : World) : Calls Tryz.prog 169 #[.int .i64 s, .int .i64 n] w fun e w' => e = .returned (.bool (decide (TM.may s n))) ∧ w = w' := by
 rcases (show s < 0 ∨ (0 ≤ s ∧ 6 ≤ s) ∨ (0 ≤ s ∧ s < 6 ∧ n < 0) ∨ (0 ≤ s ∧ s < 6 ∧ 0 ≤ n ∧ 1048576 ≤ n) ∨ (0 ≤ s ∧ s < 6 ∧ 0 ≤ n ∧ n < 1048576) by omega) with h | ⟨h0, h⟩ | ⟨h0, h1, h⟩ | ⟨h0, h1, h2, h⟩ | ⟨h0, h1, h2, h⟩
 rotate_right
 ·rw [decide_eq_true (show TM.may s n from ⟨h0, h1, h2, h⟩)]
  go_enter Tryz.func169, Tryz.ntmps169
  go_wp2_with fail
  go_ret
  exact ⟨rfl, rfl⟩
 all_goals
  rw [decide_eq_false (show ¬ TM.may s n from by unfold TM.may; omega)]
  go_enter Tryz.func169, Tryz.ntmps169
  go_wp2_with fail
  go_ret
  exact ⟨by first | rfl | (simp; try omega), rfl⟩
theorem ppart_nat (b : Int) (w : World) (h : 0 ≤ b) (h2 : b ≤ 9223372036854775807) : Calls Tryz.prog 168 #[.int .i64 b] w fun e w' => e = .returned (.tuple #[.int .i64 (b / 1048576), .int .i64 (b % 1048576)]) ∧ w = w' := by
 go_enter Tryz.func168, Tryz.ntmps168
 go_wp2
 go_ret2
 exact ⟨rfl, rfl⟩
def PartNo (w : World) (e : Ending) (w' : World) : Prop := ∃ x y : Int, ¬ TM.may x y ∧ e = .returned (.tuple #[.int .i64 x, .int .i64 y]) ∧ w = w'
theorem ppart_neg (b : Int) (w : World) (h : b < 0) (h2 : -9223372036854775808 ≤ b) : Calls Tryz.prog 168 #[.int .i64 b] w (PartNo w) := by
 have ht : ¬ TM.may (b.tdiv 1048576) (b.tmod 1048576) := by
  have e : b = -(-b) := by omega
  rw [e, Int.neg_tdiv, Int.neg_tmod, Int.tdiv_eq_ediv_of_nonneg (by omega), Int.tmod_eq_emod_of_nonneg (by omega)]
  unfold TM.may
  omega
 go_enter Tryz.func168, Tryz.ntmps168
 go_wp2
 go_ret2
 exact ⟨_, _, ht, rfl, rfl⟩
theorem pof_any {b r n y : Int} (h : TM.OfIs b r n y) (h1 : -9223372036854775808 ≤ b) (h2 : b ≤ 9223372036854775807) (w : World) : Calls Tryz.prog 162 #[.int .i64 b] w fun e w' => e = .returned (.tuple #[.int .i64 r, .int .i64 n, .int .i64 y]) ∧ w = w' := by
 rcases h with ⟨h, rfl, rfl, rfl⟩ | ⟨h, rfl, rfl, rfl⟩
 ·have hb : 0 ≤ b := h.1
  have hok := (TM.good_iff b hb).1 h
  clear h
  obtain ⟨q, hq⟩ : ∃ q, q = b / 1048576 := ⟨_, rfl⟩
  obtain ⟨p, hp⟩ : ∃ p, p = b % 1048576 := ⟨_, rfl⟩
  have HP := h! (ppart_nat b w hb h2)
  rw [← hq, ← hp] at HP hok ⊢
  clear hq hp
  have HM := h! (pmay_any q p w)
  rw [decide_eq_true hok] at HM
  clear hok
  go_enter Tryz.func162, Tryz.ntmps162
  go_wp2_with fail
  refine (HP.out).mono ?_
  rintro e w1 ⟨rfl, rfl⟩
  go_wp2_with fail
  refine (HM.out).mono ?_
  rintro e w1 ⟨rfl, rfl⟩
  go_wp2
  go_ret3
  exact ⟨rfl, rfl⟩
 ·have HP : Hid (Calls Tryz.prog 168 #[.int .i64 b] w (PartNo w)) := h! (by
   rcases (show 0 ≤ b ∨ b < 0 by omega) with hb | hb
   ·exact (ppart_nat b w hb h2).mono fun e w' k => ⟨_, _, fun g => h ((TM.good_iff b hb).2 g), k.1, k.2⟩
   ·exact ppart_neg b w hb h1)
  clear h
  go_enter Tryz.func162, Tryz.ntmps162
  go_wp2_with fail
  refine (HP.out).mono ?_
  rintro e w1 ⟨x, y, hx, rfl, rfl⟩
  have HM := h! (pmay_any x y w)
  rw [decide_eq_false hx] at HM
  clear hx
  go_wp2_with fail
  refine (HM.out).mono ?_
  rintro e w1 ⟨rfl, rfl⟩
  go_wp2
  go_ret3
  exact ⟨rfl, rfl⟩
end Go.Proofs.YteebeiaokfenmaaGreat.TP

namespace Go.Proofs.YteebeiaokfenmaaGreat.LP
open Go.RowKit CP
open CM (Cm Mg)
set_option linter.unusedVariables false
set_option linter.unusedSimpArgs false
def tcx (l : List ByteArray) : List Value := l.map fun s => Value.string s
theorem tcx_len (l : List ByteArray) : (tcx l).length = l.length := by simp [tcx]
theorem tcx_at (l : List ByteArray) (k : Nat) (h : k < l.length) : (tcx l)[k]? = some (.string l[k]) := by simp [tcx, h]
def TxIs (w : World) (A : Option Addr) (n c : Nat) (l : List ByteArray) : Prop := Rd w A n (tcx l) ∧ n ≤ c ∧ c ≤ maxLen ∧ ∀ s ∈ l, s.size ≤ maxLen
theorem TxIs.below {w w' : World} {A : Option Addr} {n c : Nat} {l : List ByteArray} (h : TxIs w A n c l) (hb : Below w.heap.size w w') : TxIs w' A n c l := ⟨h.1.below hb, h.2⟩
theorem TxIs.len {w : World} {A : Option Addr} {n c : Nat} {l : List ByteArray} (h : TxIs w A n c l) : l.length = n := by have := h.1.1; rwa [tcx_len] at this
structure El where
 A : Option Addr
 c : Nat
 B : Option Addr
 d : Nat
 x : Cm
def ecell (e : El) : List Value := (ccells e.A e.c e.B e.d e.x).toList
theorem ecell_len (e : El) : (ecell e).length = 12 := rfl
theorem ecell_one (e : El) : ∀ u ∈ ecell e, u.oneCell' = true := by
 intro u hu
 simp only [ecell, ccells, List.mem_cons, List.not_mem_nil, or_false] at hu
 rcases hu with rfl | rfl | rfl | rfl | rfl | rfl | rfl | rfl | rfl | rfl | rfl | rfl <;> rfl
def ecells (l : List El) : List Value := flat ecell l
theorem ecells_snoc (l : List El) (e : El) : ecells (l ++ [e]) = ecells l ++ ecell e := by unfold ecells; rw [flat_append, flat_one]
theorem ecells_at {l : List El} {k : Nat} {e : El} (h : l[k]? = some e) (j : Nat) (hj : j < 12) : (ecells l)[k * 12 + j]? = (ecell e)[j]? := flat_get (fun e _ => ecell_len e) h j hj
def Rows (w : World) (b : Nat) (r : Option Nat) (l : List El) : Prop :=
 ∀ e ∈ l, RowIs w e.A e.c e.x.m.gs ∧ RowIs w e.B e.d e.x.ms ∧ (∀ ad, e.A = some ad → 0 < e.x.m.gs.length → b ≤ ad.block ∧ r ≠ some ad.block) ∧ (∀ ad, e.B = some ad → 0 < e.x.ms.length → b ≤ ad.block ∧ r ≠ some ad.block) ∧ Tn b w e.A e.x.m.gs.length ∧ Tn b w e.B e.x.ms.length
theorem Rows.below {w w' : World} {b : Nat} {r : Option Nat} {l : List El} (h : Rows w b r l) (hb : Below w.heap.size w w') : Rows w' b r l := fun e he => by
 obtain ⟨h1, h2, h3, h4, h5, h6⟩ := h e he
 exact ⟨h1.below hb, h2.below hb, h3, h4, h5.below hb, h6.below hb⟩
theorem rowIs_grown {w w' : World} {A : Option Addr} {c : Nat} {L : List Int} {r : Option Nat} (h : RowIs w A c L) (hg : w.grownBy w' r) (hr : ∀ ad, A = some ad → 0 < L.length → r ≠ some ad.block) : RowIs w' A c L :=
 ⟨h.1.grown hg fun ad e hn k => hr ad e hn k.symm, h.2⟩
def CmsO (w : World) (b : Nat) (v : Value) (cs : List Cm) : Prop :=
 ∃ l : List El, l.map (fun e => e.x) = cs ∧ w.ownsRow b 91 12 v l.length (ecells l) ∧ Rows w b v.ownBlock l
theorem CmsO.below {w w' : World} {b : Nat} {v : Value} {cs : List Cm} (h : CmsO w b v cs) (hb : Below w.heap.size w w') : CmsO w' b v cs := by
 obtain ⟨l, h1, h2, h3⟩ := h
 exact ⟨l, h1, own_below3 h2 hb, h3.below hb⟩
theorem CmsO.mono {w : World} {b b' : Nat} {v : Value} {cs : List Cm} (h : CmsO w b v cs) (hb : b' ≤ b) : CmsO w b' v cs := by
 obtain ⟨l, h1, h2, h3⟩ := h
 exact ⟨l, h1, own_base h2 hb, fun e he => ⟨(h3 e he).1, (h3 e he).2.1, fun ad e1 hn => ⟨Nat.le_trans hb ((h3 e he).2.2.1 ad e1 hn).1, ((h3 e he).2.2.1 ad e1 hn).2⟩, fun ad e1 hn => ⟨Nat.le_trans hb ((h3 e he).2.2.2.1 ad e1 hn).1, ((h3 e he).2.2.2.1 ad e1 hn).2⟩, (h3 e he).2.2.2.2.1.mono hb, (h3 e he).2.2.2.2.2.mono hb⟩⟩
theorem cmsO_nil (w : World) (b : Nat) : CmsO w b (.slice none 0 0) [] := ⟨[], rfl, World.ownsRow_nil _ _ _ _, fun e he => by cases he⟩
theorem cmsO_next {w w2 : World} {b : Nat} {v v2 : Value} {cs : List Cm} {x : Cm} (l : List El) (hl : l.map (fun e => e.x) = cs) (hr : Rows w b v.ownBlock l) {A : Option Addr} {c : Nat} {B : Option Addr} {d : Nat} (h1 : RowGe w b A c x.m.gs) (h2 : RowGe w b B d x.ms)
  (n1 : ∀ ad, A = some ad → 0 < x.m.gs.length → v.ownBlock ≠ some ad.block) (n2 : ∀ ad, B = some ad → 0 < x.ms.length → v.ownBlock ≠ some ad.block)
  (hg : w.grownBy w2 v.ownBlock) (ho : w2.ownsRow b 91 12 v2 (l.length + 1) (ecells l ++ ecell ⟨A, c, B, d, x⟩)) (hob : v2.ownBlock = v.ownBlock ∨ v2.ownBlock = some w.heap.size) : CmsO w2 b v2 (cs ++ [x]) := by
 refine ⟨l ++ [⟨A, c, B, d, x⟩], by simp [hl], by rw [ecells_snoc, List.length_append]; exact ho, fun e he => ?_⟩
 have hfin : ∀ ad : Addr, ad.block < w.heap.size → v.ownBlock ≠ some ad.block → v2.ownBlock ≠ some ad.block := fun ad hlt hne => by
  rcases hob with k | k
  ·rw [k]; exact hne
  ·rw [k]; intro q; injection q with q; omega
 have lt : ∀ {A : Option Addr} {c : Nat} {L : List Int} {ad : Addr}, RowIs w A c L → A = some ad → 0 < L.length → ad.block < w.heap.size := fun {A c L ad} hR e hn => by
  obtain ⟨a, e2, hB, _⟩ := hR.1.2 hn
  rw [e] at e2; injection e2 with e2; rw [e2]; exact hB
 rcases List.mem_append.1 he with he | he
 ·obtain ⟨g1, g2, g3, g4, g5, g6⟩ := hr e he
  exact ⟨rowIs_grown g1 hg (fun ad e hn => (g3 ad e hn).2), rowIs_grown g2 hg (fun ad e hn => (g4 ad e hn).2),
   fun ad e hn => ⟨(g3 ad e hn).1, hfin ad (lt g1 e hn) (g3 ad e hn).2⟩, fun ad e hn => ⟨(g4 ad e hn).1, hfin ad (lt g2 e hn) (g4 ad e hn).2⟩, g5.grown hg (fun ad e hn => (g3 ad e hn).2), g6.grown hg (fun ad e hn => (g4 ad e hn).2)⟩
 ·obtain rfl := List.mem_singleton.1 he
  exact ⟨rowIs_grown h1.1 hg n1, rowIs_grown h2.1 hg n2, fun ad e hn => ⟨h1.2 ad e hn, hfin ad (lt h1.1 e hn) (n1 ad e hn)⟩, fun ad e hn => ⟨h2.2 ad e hn, hfin ad (lt h2.1 e hn) (n2 ad e hn)⟩, h1.3.grown hg n1, h2.3.grown hg n2⟩
def Row (n₀ : Nat) (W : World) (sv : Value) (es : List El) : Prop :=
 (sv = .slice none 0 0 ∧ es = []) ∨ ∃ b off cap, sv = .slice (some ⟨b, off, none⟩) es.length cap ∧ b < n₀ ∧ ∀ p e, es[p]? = some e → ∀ j, j < 12 → W.cell? ⟨b, off + p * 12 + j, none⟩ = (ecell e)[j]?
theorem Row.below {n₀ : Nat} {A B : World} {sv : Value} {es : List El} (h : Below n₀ A B) (hr : Row n₀ A sv es) : Row n₀ B sv es := by
 rcases hr with e | ⟨b, off, cap, e, hb, hc⟩
 ·exact .inl e
 ·exact .inr ⟨b, off, cap, e, hb, fun p x hx j hj => (h.cell (p := ⟨b, off + p * 12 + j, none⟩) hb).trans (hc p x hx j hj)⟩
def At12 (W : World) (b o : Nat) (e : El) : Prop :=
 W.cell? ⟨b, o, none⟩ = some (.int .u8 e.x.k) ∧ W.cell? ⟨b, o + 1, none⟩ = some (.int .i64 e.x.m.id) ∧ W.cell? ⟨b, o + 2, none⟩ = some (.slice e.A e.x.m.gs.length e.c) ∧ W.cell? ⟨b, o + 3, none⟩ = some (.int .i64 e.x.m.tp) ∧
 W.cell? ⟨b, o + 4, none⟩ = some (.string e.x.m.key) ∧ W.cell? ⟨b, o + 5, none⟩ = some (.string e.x.m.body) ∧ W.cell? ⟨b, o + 6, none⟩ = some (.int .i64 e.x.id) ∧ W.cell? ⟨b, o + 7, none⟩ = some (.int .i64 e.x.tm) ∧
 W.cell? ⟨b, o + 8, none⟩ = some (.slice e.B e.x.ms.length e.d) ∧ W.cell? ⟨b, o + 9, none⟩ = some (.int .i64 e.x.tp) ∧ W.cell? ⟨b, o + 10, none⟩ = some (.int .i64 e.x.wh) ∧ W.cell? ⟨b, o + 11, none⟩ = some (.int .i64 e.x.n)
theorem at12_of {W : World} {b o : Nat} {e : El} (h : ∀ j, j < 12 → W.cell? ⟨b, o + j, none⟩ = (ecell e)[j]?) : At12 W b o e :=
 ⟨h 0 (by omega), h 1 (by omega), h 2 (by omega), h 3 (by omega), h 4 (by omega), h 5 (by omega), h 6 (by omega), h 7 (by omega), h 8 (by omega), h 9 (by omega), h 10 (by omega), h 11 (by omega)⟩
theorem Row.any {n₀ : Nat} {W : World} {sv : Value} {es : List El} (h : Row n₀ W sv es) : ∃ AA cap, sv = .slice AA es.length cap ∧ ∀ p e, es[p]? = some e → ∃ b off, AA = some ⟨b, off, none⟩ ∧ b < n₀ ∧ At12 W b (off + p * 12) e := by
 rcases h with ⟨rfl, rfl⟩ | ⟨b, off, cap, rfl, hb, hc⟩
 ·exact ⟨none, 0, rfl, fun p e hp => by cases hp⟩
 ·exact ⟨_, cap, rfl, fun p e hp => ⟨b, off, rfl, hb, at12_of (hc p e hp)⟩⟩
theorem At12.below {W W' : World} {b o n₀ : Nat} {e : El} (h : At12 W b o e) (hb : b < n₀) (hB : Below n₀ W W') : At12 W' b o e := by
 obtain ⟨h0, h1, h2, h3, h4, h5, h6, h7, h8, h9, h10, h11⟩ := h
 exact ⟨(hB.cell (p := ⟨b, o, none⟩) hb).trans h0, (hB.cell (p := ⟨b, o + 1, none⟩) hb).trans h1, (hB.cell (p := ⟨b, o + 2, none⟩) hb).trans h2, (hB.cell (p := ⟨b, o + 3, none⟩) hb).trans h3, (hB.cell (p := ⟨b, o + 4, none⟩) hb).trans h4, (hB.cell (p := ⟨b, o + 5, none⟩) hb).trans h5,
  (hB.cell (p := ⟨b, o + 6, none⟩) hb).trans h6, (hB.cell (p := ⟨b, o + 7, none⟩) hb).trans h7, (hB.cell (p := ⟨b, o + 8, none⟩) hb).trans h8, (hB.cell (p := ⟨b, o + 9, none⟩) hb).trans h9, (hB.cell (p := ⟨b, o + 10, none⟩) hb).trans h10, (hB.cell (p := ⟨b, o + 11, none⟩) hb).trans h11⟩
theorem cmsO_row {w : World} {b : Nat} {v : Value} {cs : List Cm} (h : CmsO w b v cs) : ∃ es : List El, es.map (fun e => e.x) = cs ∧ Row w.heap.size w v es ∧ Rows w b v.ownBlock es := by
 obtain ⟨es, h1, h2, h3⟩ := h
 refine ⟨es, h1, ?_, h3⟩
 rcases Nat.eq_zero_or_pos es.length with h0 | h0
 ·obtain rfl := List.length_eq_zero_iff.1 h0
  rcases h2.2 with ⟨e, _⟩ | ⟨g, cap, cur, e, hb, hx, h5⟩
  ·exact .inl ⟨e, rfl⟩
  ·have hlt : g < w.heap.size := by
    rcases Nat.lt_or_ge g w.heap.size with k | k
    ·exact k
    ·rw [Array.getElem?_eq_none k] at hx; cases hx
   exact .inr ⟨g, 0, cap, e, hlt, fun p x hp => by cases hp⟩
 ·obtain ⟨g, cap, hv, _, hlt⟩ := h2.form h0
  refine .inr ⟨g, 0, cap, hv, hlt, fun p x hp j hj => ?_⟩
  have hc := h2.cells (g := g) (by rw [hv]; rfl)
  have he := ecells_at hp j hj
  have hs : ∃ u, (ecell x)[j]? = some u := ⟨_, List.getElem?_eq_getElem (by rw [ecell_len]; exact hj)⟩
  obtain ⟨u, hu⟩ := hs
  rw [hu] at he ⊢
  have := hc (p * 12 + j) u he
  have e2 : (⟨g, 0, none⟩ : Addr).add (p * 12 + j) = ⟨g, 0 + p * 12 + j, none⟩ := by unfold Addr.add; split <;> simp_all
  rw [e2] at this
  exact this
end Go.Proofs.YteebeiaokfenmaaGreat.LP

namespace Go.Proofs.YteebeiaokfenmaaGreat.CP
open Go.RowKit
open CM (Mg Cm)
def RdGe (x : Cm) (y : Int) (w : World) (e : Ending) (w' : World) : Prop := ∃ v, e = .returned (.tuple #[v, .int .i64 y]) ∧ CmGe w' w.heap.size v x ∧ Below w.heap.size w w'
end Go.Proofs.YteebeiaokfenmaaGreat.CP

namespace Go.Proofs.YteebeiaokfenmaaGreat.OP
open Go.RowKit SP TP
set_option linter.unusedVariables false
set_option linter.unusedSimpArgs false
set_option maxRecDepth 100000
def FewL (ls : List (List ByteArray)) : Prop := ls.length ≤ 6 ∧ ∀ l ∈ ls, l.length ≤ 300
def GrL (ls : List (List ByteArray)) (w : World) (e : Ending) (w' : World) : Prop := ∃ b : Bool, e = .returned (.bool b) ∧ (b = false → FewL ls) ∧ Below w.heap.size w w'
set_option maxHeartbeats 8000000 in
theorem great16_any (A : Option Addr) (n c : Nat) (ls : List (List ByteArray)) (w : World) (h : LogsIs w A n c ls) (hs : ∀ l ∈ ls, ∀ t ∈ l, t.size ≤ maxLen) :
  Calls Tryz.prog 18 #[.slice A n c] w (GrL ls w) := by
 have hn63 : n ≤ 9223372036854775807 := by
  obtain ⟨_, _, _, _, h1, h2⟩ := h
  unfold maxLen at h2
  omega
 have hln : ls.length = n := by obtain ⟨_, _, _, h1, _⟩ := h; exact h1
 have HLN := h! hln
 have H := h! h
 have HS := h! hs
 clear h hs hln
 go_enter Tryz.func18, Tryz.ntmps18
 go_wp2_with fail
 go_loopw [3, 4] (fun s i wr => ∃ k y : Nat, k ≤ n ∧ k ≤ 10 ∧ y ≤ 10100000 * k ∧ s = .int .i64 y ∧ i = .int .i64 k ∧ Below w.heap.size w wr ∧ Hid (∀ l ∈ ls.take k, 100 * min l.length 1000 ≤ y)) (fun _ i _ => 10 - (intOf i).toNat)
 case atStart => exact ⟨0, 0, by omega, by omega, by omega, rfl, rfl, Below.refl _ _, h! (by simp)⟩
 case round =>
  obtain ⟨k, y, hk, hk10, hy, rfl, rfl, hB, HK⟩ := hrel
  have HB := h! hB
  clear hB
  by_cases hlt : k < n ∧ k < 10
  ·obtain ⟨h1, h2⟩ := hlt
   obtain ⟨l, hl⟩ : ∃ l, ls[k]? = some l := ⟨_, List.getElem?_eq_getElem (by have := HLN.out; omega)⟩
   have HLL := h! hl
   obtain ⟨ad, C, e, rfl, _, q1, _⟩ := logs_get (H.out.below HB.out) hl
   have HSL := h! (HS.out l (List.mem_of_getElem? hl))
   have HQ := h! (fun W (hb : Below w.heap.size w W) => logs_get (H.out.below hb) hl)
   have hl63 : l.length ≤ 9223372036854775807 := by
    obtain ⟨_, _, _, _, _, _, _, i1, i2⟩ := HQ.out _ HB.out
    unfold maxLen at i2
    omega
   have hk0 : (0 : Int) ≤ (k : Int) := by omega
   have hkn : (k : Int) < (n : Int) := by omega
   have hk1 : (k : Int) < 10 := by omega
   obtain ⟨nl, hnl⟩ : ∃ nl, nl = l.length := ⟨_, rfl⟩
   have HNL := h! hnl
   rw [← hnl] at q1 hl63
   clear hl hnl
   go_wp2_with fail
   clear q1
   go_loopw [3, 5] (fun s i wr => ∃ j z : Nat, j ≤ nl ∧ j ≤ 1000 ∧ y + 100 * j ≤ z ∧ z ≤ y + 10100 * j ∧ s = .int .i64 z ∧ i = .int .i64 j ∧ Below w.heap.size w wr) (fun _ i _ => 1000 - (intOf i).toNat)
   case atStart => exact ⟨0, y, by omega, by omega, by omega, by omega, rfl, rfl, HB.out⟩
   case round =>
    clear HB
    obtain ⟨j, z, hj, hj3, hz1, hz2, rfl, rfl, hB⟩ := hrel
    obtain ⟨ad2, C2, e2, hae, _, q1, q2, q3, q4⟩ := HQ.out _ hB
    injection hae with hae
    subst hae
    rw [← HNL.out] at q1 q2
    have HB := h! hB
    clear hB
    by_cases hlt2 : j < nl ∧ j < 1000
    ·obtain ⟨h3, h4⟩ := hlt2
     obtain ⟨t, ht⟩ : ∃ t, l[j]? = some t := ⟨_, List.getElem?_eq_getElem (by have := HNL.out; omega)⟩
     have hts := HSL.out t (List.mem_of_getElem? ht)
     unfold maxLen at hts
     obtain ⟨ad3, u, rfl, _, hu, hcell⟩ := q2.at_ (k := j) h3
     rw [tc_get ht] at hu
     injection hu with hu
     subst hu
     have hj0 : (0 : Int) ≤ (j : Int) := by omega
     have hjn : (j : Int) < (nl : Int) := by omega
     have hj1 : (j : Int) < 1000 := by omega
     clear ht q2
     go_wp2_with fail
     go_roundw
     case rel => exact ⟨j + 1, z + min t.size 10000 + 100, by omega, by omega, by omega, by omega, by congr 1; omega, by go_num, HB.out⟩
     case measure => simp [intOf]; omega
    ·have NX := h! (show ∀ l ∈ ls.take (k + 1), 100 * min l.length 1000 ≤ z from fun l2 hl2 => by
      rw [List.take_add_one, HLL.out] at hl2
      rcases List.mem_append.1 hl2 with q | q
      ·have := HK.out l2 q
       omega
      ·simp at q
       subst q
       have := HNL.out
       omega)
     clear q2
     rcases (show ¬ j < nl ∨ (j < nl ∧ ¬ j < 1000) by omega) with p1 | ⟨p1, p2⟩
     all_goals
      clear hlt2
      go_wp2_with fail
      go_roundw
      case rel => exact ⟨k + 1, z, by omega, by omega, by omega, rfl, by go_num, HB.out, NX⟩
      case measure => simp [intOf]; omega
  ·have HN := h! (show n ≤ 6 → y ≤ 30000 → FewL ls from fun e1 e2 => by
    have e3 : k = n := by omega
    have e4 := HK.out
    rw [e3, List.take_of_length_le (by have := HLN.out; omega)] at e4
    exact ⟨by have := HLN.out; omega, fun l hl => by have := e4 l hl; omega⟩)
   have hq : ¬ (k : Int) < (n : Int) ∨ ((k : Int) < (n : Int) ∧ ¬ (k : Int) < 10) := by omega
   clear hlt HK
   by_cases p1 : 6 < n
   ·rcases hq with q1 | ⟨q1, q2⟩
    all_goals
     go_wp2_with fail
     go_ret
     exact ⟨true, by first | rfl | simp, fun h => (by cases h), HB.out⟩
   ·have q1 : ¬ (k : Int) < (n : Int) := by omega
    clear hq
    have t1 : decide ((6 : Int) < (n : Int)) = false := by rw [decide_eq_false_iff_not]; omega
    by_cases p2 : 30000 < y
    ·have t2 : decide ((30000 : Int) < (y : Int)) = true := by rw [decide_eq_true_iff]; omega
     go_wp2_with fail
     go_ret
     exact ⟨true, by first | rfl | (rw [t2]) | (simp; omega), fun h => (by cases h), HB.out⟩
    ·have t2 : decide ((30000 : Int) < (y : Int)) = false := by rw [decide_eq_false_iff_not]; omega
     go_wp2_with fail
     go_ret
     exact ⟨false, by first | rfl | (rw [t2]) | (simp; omega), fun _ => HN.out (by omega) (by omega), HB.out⟩
end Go.Proofs.YteebeiaokfenmaaGreat.OP

namespace Go.Proofs.YteebeiaokfenmaaGreat.TP
open Go.RowKit
open TM (Sp)
set_option linter.unusedVariables false
set_option linter.unusedSimpArgs false
set_option maxRecDepth 100000
theorem box_two {w : World} {g : Nat} {t : TypeId} {a b : Value} (h : Box w g t #[a, b]) : w.cell? ⟨g, 0, none⟩ = some a ∧ w.cell? ⟨g, 1, none⟩ = some b := ⟨h.cell 0, h.cell 1⟩
set_option maxHeartbeats 2000000 in
theorem rless_any (a b : Sp) (w : World) : Calls Tryz.prog 146 #[vsp a, vsp b] w (IsB (TM.less a b) w) := by
 obtain ⟨at_, ai⟩ := a
 obtain ⟨bt, bi⟩ := b
 unfold vsp
 have HB := h! (show Below w.heap.size w ((w.alloc (.cells #[.int .i64 at_, .int .i64 ai] 46)).alloc (.cells #[.int .i64 bt, .int .i64 bi] 46)) from
  ((Below.refl _ _).alloc n! _).alloc (by simp) _)
 have X := h! ((Box.new w 46 #[.int .i64 at_, .int .i64 ai]).alloc (.cells #[.int .i64 bt, .int .i64 bi] 46))
 have Y := h! (Box.new_at (w := w.alloc (.cells #[.int .i64 at_, .int .i64 ai] 46)) (t := 46) (cs := #[.int .i64 bt, .int .i64 bi]) (w.heap.size + 1) (by simp))
 simp only
 rcases (show at_ < bt ∨ (¬ at_ < bt ∧ at_ = bt ∧ ai < bi) ∨ (¬ at_ < bt ∧ at_ = bt ∧ ¬ ai < bi) ∨ (¬ at_ < bt ∧ at_ ≠ bt) by omega) with h | ⟨h0, h1, h⟩ | ⟨h0, h1, h⟩ | ⟨h0, h⟩
 ·rw [show TM.less ⟨at_, ai⟩ ⟨bt, bi⟩ = true from decide_eq_true (.inl h)]
  go_enter Tryz.func146, Tryz.ntmps146
  go_upto_region 1 with (fail)
  generalize (w.alloc (.cells #[.int .i64 at_, .int .i64 ai] 46)).alloc (.cells #[.int .i64 bt, .int .i64 bi] 46) = w1 at HB X Y ⊢
  generalize hg : w.heap.size = g at X Y ⊢
  clear hg
  obtain ⟨x0, x1⟩ := box_two X.out
  obtain ⟨y0, y1⟩ := box_two Y.out
  go_wp2_with fail
  go_ret
  exact ⟨rfl, HB.out⟩
 ·rw [show TM.less ⟨at_, ai⟩ ⟨bt, bi⟩ = true from decide_eq_true (.inr ⟨h1, h⟩)]
  have e1 : (at_ == bt) = true := by simpa using h1
  clear h1
  go_enter Tryz.func146, Tryz.ntmps146
  go_upto_region 1 with (fail)
  generalize (w.alloc (.cells #[.int .i64 at_, .int .i64 ai] 46)).alloc (.cells #[.int .i64 bt, .int .i64 bi] 46) = w1 at HB X Y ⊢
  generalize hg : w.heap.size = g at X Y ⊢
  clear hg
  obtain ⟨x0, x1⟩ := box_two X.out
  obtain ⟨y0, y1⟩ := box_two Y.out
  go_wp2_with fail
  go_ret
  exact ⟨rfl, HB.out⟩
 ·rw [show TM.less ⟨at_, ai⟩ ⟨bt, bi⟩ = false from decide_eq_false (fun g => by unfold TM.lt at g; simp only at g; omega)]
  have e1 : (at_ == bt) = true := by simpa using h1
  clear h1
  go_enter Tryz.func146, Tryz.ntmps146
  go_upto_region 1 with (fail)
  generalize (w.alloc (.cells #[.int .i64 at_, .int .i64 ai] 46)).alloc (.cells #[.int .i64 bt, .int .i64 bi] 46) = w1 at HB X Y ⊢
  generalize hg : w.heap.size = g at X Y ⊢
  clear hg
  obtain ⟨x0, x1⟩ := box_two X.out
  obtain ⟨y0, y1⟩ := box_two Y.out
  go_wp2_with fail
  go_ret
  exact ⟨rfl, HB.out⟩
 ·rw [show TM.less ⟨at_, ai⟩ ⟨bt, bi⟩ = false from decide_eq_false (fun g => by unfold TM.lt at g; simp only at g; omega)]
  have e1 : (at_ == bt) = false := by simpa using h
  clear h
  go_enter Tryz.func146, Tryz.ntmps146
  go_upto_region 1 with (fail)
  generalize (w.alloc (.cells #[.int .i64 at_, .int .i64 ai] 46)).alloc (.cells #[.int .i64 bt, .int .i64 bi] 46) = w1 at HB X Y ⊢
  generalize hg : w.heap.size = g at X Y ⊢
  clear hg
  obtain ⟨x0, x1⟩ := box_two X.out
  obtain ⟨y0, y1⟩ := box_two Y.out
  go_wp2_with fail
  go_ret
  exact ⟨rfl, HB.out⟩
end Go.Proofs.YteebeiaokfenmaaGreat.TP
