/-
  Rows of structs that hold one slice of ints (messages, what waits) in memory: read, from a block on, owned. A clock by value. No walk.
-/
import Derived.Test.YtnpgjcapekopnaaGreatCmRow
import Derived.Test.YtnpgjcapekopnaaGreatSpMem
import Derived.Test.YtnpgjcapekopnaaGreatSkMath
namespace Go.Proofs.YtnpgjcapekopnaaGreat.KP
open Go.RowKit CP TP
open CM (Mg Cm)
open TM (Sp)
open KM (Wt Sk)
set_option linter.unusedVariables false
set_option linter.unusedSimpArgs false

/-- a kind of structs that hold one slice of ints -/
structure Kd (α : Type) where
  s : Nat
  gs : α → List Int
  cel : Option Addr → Nat → α → List Value
  pos : 0 < s
  len : ∀ A c x, (cel A c x).length = s
  one : ∀ A c x, ∀ u ∈ cel A c x, u.oneCell' = true
/-- one with the place of its slice -/
structure Ex (α : Type) where
  A : Option Addr
  c : Nat
  x : α
section
variable {α : Type} (K : Kd α)
def exc (e : Ex α) : List Value := K.cel e.A e.c e.x
theorem exc_len (l : List (Ex α)) : ∀ e ∈ l, (exc K e).length = K.s := fun e _ => K.len _ _ _
theorem flat_exc (l : List (Ex α)) : (flat (exc K) l).length = l.length * K.s := flat_length (exc_len K l)
theorem exc_one (l : List (Ex α)) : ∀ u ∈ flat (exc K) l, u.oneCell' = true := one_flat (fun e => K.one _ _ _) l
/-- a slice that reads as some, wherever -/
def KR (w : World) (A : Option Addr) (n c : Nat) (l : List α) : Prop :=
  ∃ es : List (Ex α), es.map Ex.x = l ∧ RdG w K.s A n (flat (exc K) es) ∧ es.length = n ∧ n ≤ c ∧ c ≤ maxLen ∧ ∀ e ∈ es, RowIs w e.A e.c (K.gs e.x)
/-- the same, their slices from block b on -/
def KG (w : World) (b : Nat) (A : Option Addr) (n c : Nat) (l : List α) : Prop :=
  ∃ es : List (Ex α), es.map Ex.x = l ∧ RdG w K.s A n (flat (exc K) es) ∧ es.length = n ∧ n ≤ c ∧ c ≤ maxLen ∧ ∀ e ∈ es, RowGe w b e.A e.c (K.gs e.x)
/-- a row of one's own, from block b on -/
def KO (w : World) (b : Nat) (T : TypeId) (v : Value) (l : List α) : Prop :=
  ∃ es : List (Ex α), es.map Ex.x = l ∧ w.ownsRow b T K.s v es.length (flat (exc K) es) ∧ ∀ e ∈ es, RowGe w b e.A e.c (K.gs e.x) ∧ ∀ ad, e.A = some ad → 0 < (K.gs e.x).length → v.ownBlock ≠ some ad.block
variable {K} {w w' : World} {b n c : Nat} {A : Option Addr} {l : List α} {T : TypeId} {v : Value}
theorem KR.len (h : KR K w A n c l) : l.length = n := by obtain ⟨es, rfl, _, h, _⟩ := h; rw [List.length_map]; exact h
theorem KR.le (h : KR K w A n c l) : n ≤ c ∧ c ≤ maxLen := by obtain ⟨es, _, _, _, h1, h2, _⟩ := h; exact ⟨h1, h2⟩
theorem KR.small (h : KR K w A n c l) : n ≤ 9223372036854775807 := by
  have := h.le
  unfold maxLen at this
  omega
theorem KR.below (h : KR K w A n c l) (hb : Below w.heap.size w w') : KR K w' A n c l := by
  obtain ⟨es, h1, h2, h3, h4, h5, h6⟩ := h
  exact ⟨es, h1, h2.below hb, h3, h4, h5, fun e he => (h6 e he).below hb⟩
theorem KG.below (h : KG K w b A n c l) (hb : Below w.heap.size w w') : KG K w' b A n c l := by
  obtain ⟨es, h1, h2, h3, h4, h5, h6⟩ := h
  exact ⟨es, h1, h2.below hb, h3, h4, h5, fun e he => (h6 e he).below hb⟩
theorem KG.r (h : KG K w b A n c l) : KR K w A n c l := by
  obtain ⟨es, h1, h2, h3, h4, h5, h6⟩ := h
  exact ⟨es, h1, h2, h3, h4, h5, fun e he => (h6 e he).1⟩
theorem KG.mono {b' : Nat} (h : KG K w b A n c l) (hb : b' ≤ b) : KG K w b' A n c l := by
  obtain ⟨es, h1, h2, h3, h4, h5, h6⟩ := h
  exact ⟨es, h1, h2, h3, h4, h5, fun e he => (h6 e he).mono hb⟩
theorem KO.below (h : KO K w b T v l) (hb : Below w.heap.size w w') : KO K w' b T v l := by
  obtain ⟨es, h1, h2, h3⟩ := h
  exact ⟨es, h1, own_below3 h2 hb, fun e he => ⟨(h3 e he).1.below hb, (h3 e he).2⟩⟩
theorem KO.mono {b' : Nat} (h : KO K w b T v l) (hb : b' ≤ b) : KO K w b' T v l := by
  obtain ⟨es, h1, h2, h3⟩ := h
  exact ⟨es, h1, own_base h2 hb, fun e he => ⟨(h3 e he).1.mono hb, (h3 e he).2⟩⟩
theorem rdg_own {base s n c : Nat} {e : TypeId} {A : Option Addr} {xs : List Value} (h : w.ownsRow base e s (.slice A n c) n xs) : RdG w s A n xs := by
  refine ⟨h.1, fun hn => ?_⟩
  obtain ⟨g, cap, hv, _, hlt⟩ := h.form hn
  have hA : A = some ⟨g, 0, none⟩ := by injection hv
  subst hA
  exact ⟨_, rfl, hlt, h.cells (g := g) rfl⟩
theorem KO.g (h : KO K w b T v l) : ∃ A c, v = .slice A l.length c ∧ KG K w b A l.length c l := by
  obtain ⟨es, rfl, h2, h3⟩ := h
  obtain ⟨A, c, rfl, h4, h5⟩ := own_form h2
  rw [List.length_map]
  exact ⟨A, c, rfl, es, rfl, rdg_own h2, rfl, h4, h5, fun e he => (h3 e he).1⟩
variable (K) in
theorem kR_nil (w : World) : KR K w none 0 0 [] := ⟨[], rfl, ⟨by simp [flat], fun h => absurd h (by omega)⟩, rfl, Nat.le_refl _, Nat.zero_le _, fun e he => by cases he⟩
variable (K) in
theorem kO_nil (w : World) (b : Nat) (T : TypeId) : KO K w b T (.slice none 0 0) [] := ⟨[], rfl, World.ownsRow_nil _ _ _ _, fun e he => by cases he⟩
/-- an element's cells, and the place of its slice -/
theorem KR.at_ (h : KR K w A n c l) {k : Nat} {x : α} (hk : l[k]? = some x) : ∃ bl o B d, A = some ⟨bl, o, none⟩ ∧ k < n ∧ bl < w.heap.size ∧
    (∀ j u, (K.cel B d x)[j]? = some u → w.cell? ⟨bl, o + k * K.s + j, none⟩ = some u) ∧ RowIs w B d (K.gs x) := by
  obtain ⟨es, rfl, h2, h3, _, _, h6⟩ := h
  rw [List.getElem?_map] at hk
  rcases he : es[k]? with _ | e
  · rw [he] at hk; cases hk
  · rw [he] at hk
    injection hk with hk
    subst hk
    have hkl := (List.getElem?_eq_some_iff.1 he).1
    have hs := K.pos
    obtain ⟨ad, ea, hb, hc⟩ := h2.2 (by omega)
    have hp : 0 < (flat (exc K) es).length := by rw [flat_exc]; exact Nat.mul_pos (by omega) hs
    have h0 := hc 0 _ (List.getElem?_eq_getElem hp)
    rw [show ad.add 0 = ad from by simp [Addr.add]] at h0
    have hsp := spot_none h0
    obtain ⟨bl, o, sp⟩ := ad
    simp only at hsp
    subst hsp
    refine ⟨bl, o, e.A, e.c, ea, by omega, hb, fun j u hu => ?_, h6 e (List.mem_of_getElem? he)⟩
    have hj := (List.getElem?_eq_some_iff.1 hu).1
    rw [K.len] at hj
    have := hc (k * K.s + j) u (by rw [flat_get (exc_len K es) he j hj]; exact hu)
    rw [add_none] at this
    rw [Nat.add_assoc]
    exact this
/-- the same, its slice from block b on -/
theorem KG.at_ (h : KG K w b A n c l) {k : Nat} {x : α} (hk : l[k]? = some x) : ∃ bl o B d, A = some ⟨bl, o, none⟩ ∧ k < n ∧ bl < w.heap.size ∧
    (∀ j u, (K.cel B d x)[j]? = some u → w.cell? ⟨bl, o + k * K.s + j, none⟩ = some u) ∧ RowGe w b B d (K.gs x) := by
  obtain ⟨es, rfl, h2, h3, _, _, h6⟩ := h
  rw [List.getElem?_map] at hk
  rcases he : es[k]? with _ | e
  · rw [he] at hk; cases hk
  · rw [he] at hk
    injection hk with hk
    subst hk
    have hkl := (List.getElem?_eq_some_iff.1 he).1
    have hs := K.pos
    obtain ⟨ad, ea, hb, hc⟩ := h2.2 (by omega)
    have hp : 0 < (flat (exc K) es).length := by rw [flat_exc]; exact Nat.mul_pos (by omega) hs
    have h0 := hc 0 _ (List.getElem?_eq_getElem hp)
    rw [show ad.add 0 = ad from by simp [Addr.add]] at h0
    have hsp := spot_none h0
    obtain ⟨bl, o, sp⟩ := ad
    simp only at hsp
    subst hsp
    refine ⟨bl, o, e.A, e.c, ea, by omega, hb, fun j u hu => ?_, h6 e (List.mem_of_getElem? he)⟩
    have hj := (List.getElem?_eq_some_iff.1 hu).1
    rw [K.len] at hj
    have := hc (k * K.s + j) u (by rw [flat_get (exc_len K es) he j hj]; exact hu)
    rw [add_none] at this
    rw [Nat.add_assoc]
    exact this
theorem row_lt {A : Option Addr} {c : Nat} {L : List Int} {ad : Addr} (hR : RowIs w A c L) (e : A = some ad) (hn : 0 < L.length) : ad.block < w.heap.size := by
  obtain ⟨a, e2, hB, _⟩ := hR.1.2 hn
  rw [e] at e2; injection e2 with e2; rw [e2]; exact hB
theorem rowGe_grown {A : Option Addr} {c : Nat} {L : List Int} {r : Option Nat} (h : RowGe w b A c L) (hg : w.grownBy w' r) (hr : ∀ ad, A = some ad → 0 < L.length → r ≠ some ad.block) : RowGe w' b A c L :=
  ⟨⟨h.1.1.grown hg fun ad e hn k => hr ad e hn k.symm, h.1.2⟩, h.2, h.3.grown hg hr⟩
/-- one more behind them: w the world at the append (its argument's block just laid), w' behind it -/
theorem kO_next {v2 : Value} {x : α} (es : List (Ex α)) (hl : es.map Ex.x = l) (hr : ∀ e ∈ es, RowGe w b e.A e.c (K.gs e.x) ∧ ∀ ad, e.A = some ad → 0 < (K.gs e.x).length → v.ownBlock ≠ some ad.block) {A : Option Addr} {c : Nat}
    (h1 : RowGe w b A c (K.gs x)) (n1 : ∀ ad, A = some ad → 0 < (K.gs x).length → v.ownBlock ≠ some ad.block)
    (hg : w.grownBy w' v.ownBlock) (ho : w'.ownsRow b T K.s v2 (es.length + 1) (flat (exc K) es ++ K.cel A c x)) (hob : v2.ownBlock = v.ownBlock ∨ v2.ownBlock = some w.heap.size) : KO K w' b T v2 (l ++ [x]) := by
  refine ⟨es ++ [⟨A, c, x⟩], by simp [hl], by rw [flat_append, flat_one, List.length_append]; exact ho, fun e he => ?_⟩
  have hfin : ∀ ad : Addr, ad.block < w.heap.size → v.ownBlock ≠ some ad.block → v2.ownBlock ≠ some ad.block := fun ad hlt hne => by
    rcases hob with k | k
    · rw [k]; exact hne
    · rw [k]; intro q; injection q with q; omega
  rcases List.mem_append.1 he with he | he
  · obtain ⟨g1, g2⟩ := hr e he
    exact ⟨rowGe_grown g1 hg g2, fun ad e1 hn => hfin ad (row_lt g1.1 e1 hn) (g2 ad e1 hn)⟩
  · obtain rfl := List.mem_singleton.1 he
    exact ⟨rowGe_grown h1 hg n1, fun ad e1 hn => hfin ad (row_lt h1.1 e1 hn) (n1 ad e1 hn)⟩
end
/-- what waits; messages -/
def KW : Kd Wt := ⟨7, fun x => x.m.gs, fun A c x => [.int .i64 x.m.id, .slice A x.m.gs.length c, .int .i64 x.m.tp, .string x.m.key, .string x.m.body, .int .i64 x.t, .bool x.f], by omega, fun _ _ _ => rfl, fun A c x u hu => by
  simp only [List.mem_cons, List.not_mem_nil, or_false] at hu
  rcases hu with rfl | rfl | rfl | rfl | rfl | rfl | rfl <;> rfl⟩
def KM_ : Kd Mg := ⟨5, fun x => x.gs, fun A c x => [.int .i64 x.id, .slice A x.gs.length c, .int .i64 x.tp, .string x.key, .string x.body], by omega, fun _ _ _ => rfl, fun A c x u hu => by
  simp only [List.mem_cons, List.not_mem_nil, or_false] at hu
  rcases hu with rfl | rfl | rfl | rfl | rfl <;> rfl⟩
def vwt (A : Option Addr) (c : Nat) (x : Wt) : Value := .agg #[.int .i64 x.m.id, .slice A x.m.gs.length c, .int .i64 x.m.tp, .string x.m.key, .string x.m.body, .int .i64 x.t, .bool x.f]
/-- the seven cells of what waits at o -/
def At7 (W : World) (b o : Nat) (B : Option Addr) (d : Nat) (x : Wt) : Prop :=
  W.cell? ⟨b, o, none⟩ = some (.int .i64 x.m.id) ∧ W.cell? ⟨b, o + 1, none⟩ = some (.slice B x.m.gs.length d) ∧ W.cell? ⟨b, o + 2, none⟩ = some (.int .i64 x.m.tp) ∧ W.cell? ⟨b, o + 3, none⟩ = some (.string x.m.key) ∧
    W.cell? ⟨b, o + 4, none⟩ = some (.string x.m.body) ∧ W.cell? ⟨b, o + 5, none⟩ = some (.int .i64 x.t) ∧ W.cell? ⟨b, o + 6, none⟩ = some (.bool x.f)
theorem at7_of {W : World} {b o : Nat} {B : Option Addr} {d : Nat} {x : Wt} (h : ∀ j u, (KW.cel B d x)[j]? = some u → W.cell? ⟨b, o + j, none⟩ = some u) : At7 W b o B d x :=
  ⟨h 0 _ rfl, h 1 _ rfl, h 2 _ rfl, h 3 _ rfl, h 4 _ rfl, h 5 _ rfl, h 6 _ rfl⟩
theorem At7.below {W W' : World} {b o n₀ : Nat} {B : Option Addr} {d : Nat} {x : Wt} (h : At7 W b o B d x) (hb : b < n₀) (hB : Below n₀ W W') : At7 W' b o B d x := by
  obtain ⟨h0, h1, h2, h3, h4, h5, h6⟩ := h
  exact ⟨(hB.cell (p := ⟨b, o, none⟩) hb).trans h0, (hB.cell (p := ⟨b, o + 1, none⟩) hb).trans h1, (hB.cell (p := ⟨b, o + 2, none⟩) hb).trans h2, (hB.cell (p := ⟨b, o + 3, none⟩) hb).trans h3,
    (hB.cell (p := ⟨b, o + 4, none⟩) hb).trans h4, (hB.cell (p := ⟨b, o + 5, none⟩) hb).trans h5, (hB.cell (p := ⟨b, o + 6, none⟩) hb).trans h6⟩
def At5 (W : World) (b o : Nat) (B : Option Addr) (d : Nat) (x : Mg) : Prop :=
  W.cell? ⟨b, o, none⟩ = some (.int .i64 x.id) ∧ W.cell? ⟨b, o + 1, none⟩ = some (.slice B x.gs.length d) ∧ W.cell? ⟨b, o + 2, none⟩ = some (.int .i64 x.tp) ∧ W.cell? ⟨b, o + 3, none⟩ = some (.string x.key) ∧
    W.cell? ⟨b, o + 4, none⟩ = some (.string x.body)
theorem at5_of {W : World} {b o : Nat} {B : Option Addr} {d : Nat} {x : Mg} (h : ∀ j u, (KM_.cel B d x)[j]? = some u → W.cell? ⟨b, o + j, none⟩ = some u) : At5 W b o B d x :=
  ⟨h 0 _ rfl, h 1 _ rfl, h 2 _ rfl, h 3 _ rfl, h 4 _ rfl⟩
theorem At5.below {W W' : World} {b o n₀ : Nat} {B : Option Addr} {d : Nat} {x : Mg} (h : At5 W b o B d x) (hb : b < n₀) (hB : Below n₀ W W') : At5 W' b o B d x := by
  obtain ⟨h0, h1, h2, h3, h4⟩ := h
  exact ⟨(hB.cell (p := ⟨b, o, none⟩) hb).trans h0, (hB.cell (p := ⟨b, o + 1, none⟩) hb).trans h1, (hB.cell (p := ⟨b, o + 2, none⟩) hb).trans h2, (hB.cell (p := ⟨b, o + 3, none⟩) hb).trans h3, (hB.cell (p := ⟨b, o + 4, none⟩) hb).trans h4⟩
/-- an element of what waits -/
theorem wts_at {w : World} {A : Option Addr} {n c k : Nat} {l : List Wt} {x : Wt} (h : KR KW w A n c l) (hk : l[k]? = some x) : ∃ bl o B d, A = some ⟨bl, o, none⟩ ∧ k < n ∧ bl < w.heap.size ∧ At7 w bl (o + k * 7) B d x ∧ RowIs w B d x.m.gs := by
  obtain ⟨bl, o, B, d, h1, h2, h3, h4, h5⟩ := h.at_ hk
  exact ⟨bl, o, B, d, h1, h2, h3, at7_of h4, h5⟩
theorem wtsG_at {w : World} {b : Nat} {A : Option Addr} {n c k : Nat} {l : List Wt} {x : Wt} (h : KG KW w b A n c l) (hk : l[k]? = some x) : ∃ bl o B d, A = some ⟨bl, o, none⟩ ∧ k < n ∧ bl < w.heap.size ∧ At7 w bl (o + k * 7) B d x ∧ RowGe w b B d x.m.gs := by
  obtain ⟨bl, o, B, d, h1, h2, h3, h4, h5⟩ := h.at_ hk
  exact ⟨bl, o, B, d, h1, h2, h3, at7_of h4, h5⟩
theorem mgs_at {w : World} {A : Option Addr} {n c k : Nat} {l : List Mg} {x : Mg} (h : KR KM_ w A n c l) (hk : l[k]? = some x) : ∃ bl o B d, A = some ⟨bl, o, none⟩ ∧ k < n ∧ bl < w.heap.size ∧ At5 w bl (o + k * 5) B d x ∧ RowIs w B d x.gs := by
  obtain ⟨bl, o, B, d, h1, h2, h3, h4, h5⟩ := h.at_ hk
  exact ⟨bl, o, B, d, h1, h2, h3, at5_of h4, h5⟩
/-- what waits, by value -/
def WtIs (w : World) (v : Value) (x : Wt) : Prop := ∃ A c, v = vwt A c x ∧ RowIs w A c x.m.gs
theorem WtIs.below {w w' : World} {v : Value} {x : Wt} (h : WtIs w v x) (hb : Below w.heap.size w w') : WtIs w' v x := by
  obtain ⟨A, c, e, h1⟩ := h
  exact ⟨A, c, e, h1.below hb⟩
/-- a clock, by value -/
def vsk (c : Int) (vw vd : Value) : Value := .agg #[.int .i64 c, vw, vd]
def SkIs (w : World) (v : Value) (s : Sk) : Prop := ∃ A c B d, v = vsk s.c (.slice A s.ws.length c) (.slice B s.ds.length d) ∧ KR KW w A s.ws.length c s.ws ∧ SpsIs w B s.ds.length d s.ds
theorem SkIs.below {w w' : World} {v : Value} {s : Sk} (h : SkIs w v s) (hb : Below w.heap.size w w') : SkIs w' v s := by
  obtain ⟨A, c, B, d, e, h1, h2⟩ := h
  exact ⟨A, c, B, d, e, h1.below hb, h2.below hb⟩
/-- the same, all of one's own from block b on -/
def SkO (w : World) (b : Nat) (v : Value) (s : Sk) : Prop := ∃ vw vd, v = vsk s.c vw vd ∧ KO KW w b 52 vw s.ws ∧ w.ownsRow b 70 2 vd s.ds.length (flat spc s.ds)
theorem SkO.below {w w' : World} {b : Nat} {v : Value} {s : Sk} (h : SkO w b v s) (hb : Below w.heap.size w w') : SkO w' b v s := by
  obtain ⟨vw, vd, e, h1, h2⟩ := h
  exact ⟨vw, vd, e, h1.below hb, own_below3 h2 hb⟩
theorem SkO.mono {w : World} {b b' : Nat} {v : Value} {s : Sk} (h : SkO w b v s) (hb : b' ≤ b) : SkO w b' v s := by
  obtain ⟨vw, vd, e, h1, h2⟩ := h
  exact ⟨vw, vd, e, h1.mono hb, own_base h2 hb⟩
theorem SkO.is {w : World} {b : Nat} {v : Value} {s : Sk} (h : SkO w b v s) : SkIs w v s := by
  obtain ⟨vw, vd, rfl, h1, h2⟩ := h
  obtain ⟨A, c, rfl, h3⟩ := h1.g
  obtain ⟨B, d, rfl, h4, h5⟩ := own_form h2
  exact ⟨A, c, B, d, rfl, h3.r, ⟨rdg_own h2, rfl, h4, h5⟩⟩
theorem skIs_zero (w : World) : SkIs w (.agg #[.int .i64 0, .slice none 0 0, .slice none 0 0]) KM.zero := ⟨none, 0, none, 0, rfl, kR_nil KW w, spsIs_nil w⟩
theorem skO_zero (w : World) (b : Nat) : SkO w b (.agg #[.int .i64 0, .slice none 0 0, .slice none 0 0]) KM.zero := ⟨_, _, rfl, kO_nil KW w b _, World.ownsRow_nil _ _ _ _⟩
/-- the cells of a box that holds a clock; what waits -/
theorem box_sk {w : World} {g : Nat} {t : TypeId} {a b c : Value} (h : Box w g t #[a, b, c]) : w.cell? ⟨g, 0, none⟩ = some a ∧ w.cell? ⟨g, 1, none⟩ = some b ∧ w.cell? ⟨g, 2, none⟩ = some c := ⟨h.cell 0, h.cell 1, h.cell 2⟩
theorem box_wt {w : World} {g : Nat} {t : TypeId} {a0 a1 a2 a3 a4 a5 a6 : Value} (h : Box w g t #[a0, a1, a2, a3, a4, a5, a6]) :
    w.cell? ⟨g, 0, none⟩ = some a0 ∧ w.cell? ⟨g, 1, none⟩ = some a1 ∧ w.cell? ⟨g, 2, none⟩ = some a2 ∧ w.cell? ⟨g, 3, none⟩ = some a3 ∧ w.cell? ⟨g, 4, none⟩ = some a4 ∧ w.cell? ⟨g, 5, none⟩ = some a5 ∧ w.cell? ⟨g, 6, none⟩ = some a6 :=
  ⟨h.cell 0, h.cell 1, h.cell 2, h.cell 3, h.cell 4, h.cell 5, h.cell 6⟩
end Go.Proofs.YtnpgjcapekopnaaGreat.KP
