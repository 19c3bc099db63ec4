/-
  Owned rows of what waits through stores elsewhere; a copy of a clock as it grows. No walk.
-/
import Derived.Test.YtnpgjcapekopnaaGreatSkDef
namespace Go.Proofs.YtnpgjcapekopnaaGreat.KP
open Go.RowKit CP TP
open CM (Mg Cm)
open TM (Sp)
open KM (Wt Sk)
set_option linter.unusedVariables false
set_option linter.unusedSimpArgs false

theorem box_type {w : World} {g : Nat} {t t' : TypeId} {cs cs' : Array Value} (h : Box w g t cs) (h' : Box w g t' cs') : t = t' := by
  rw [Box] at h h'
  rw [h] at h'
  injection h' with h'
  injection h' with _ h'
section
variable {α : Type} {K : Kd α} {w w' : World} {b : Nat} {T : TypeId} {v : Value} {l : List α} {S : TypeId → Prop}
theorem rowGe_kept {A : Option Addr} {c : Nat} {L : List Int} (k : Kept S w w') (hi : ¬ S 3) (h : RowGe w b A c L) : RowGe w' b A c L := by
  refine ⟨⟨⟨h.1.1.1, fun hn => ?_⟩, h.1.2⟩, h.2, fun hn => ?_⟩
  · obtain ⟨g, cur, e, hb, hx, hs⟩ := h.3 hn
    obtain ⟨ad, e2, hB, hc⟩ := h.1.1.2 hn
    rw [e] at e2
    injection e2 with e2
    subst e2
    have hx' := k.box g _ cur hi hx
    refine ⟨⟨g, 0, none⟩, e, hx'.lt, fun j u hu => ?_⟩
    have := hc j u hu
    rw [add_none] at this ⊢
    rw [hx.cell] at this
    rw [hx'.cell]
    exact this
  · obtain ⟨g, cur, e, hb, hx, hs⟩ := h.3 hn
    exact ⟨g, cur, e, hb, k.box g _ cur hi hx, hs⟩
theorem KO.kept (k : Kept S w w') (hi : ¬ S 3) (hT : ¬ S T) (h : KO K w b T v l) : KO K w' b T v l := by
  obtain ⟨es, h1, h2, h3⟩ := h
  exact ⟨es, h1, k.own h2 hT, fun e he => ⟨rowGe_kept k hi (h3 e he).1, (h3 e he).2⟩⟩
theorem KO.set (h : KO K w b T v l) {g i : Nat} (hg : g < b) (u : Value) : KO K (w.setCell ⟨g, i, none⟩ u) b T v l := by
  obtain ⟨es, h1, h2, h3⟩ := h
  exact ⟨es, h1, ownsRow_setCell_below h2 (a := ⟨g, i, none⟩) hg u, fun e he => ⟨(h3 e he).1.set hg u, (h3 e he).2⟩⟩
/-- an owned row's block is one of a type -/
theorem own_ne {base s n g : Nat} {e t : TypeId} {xs : List Value} {cs : Array Value} (h : w.ownsRow base e s v n xs) (hx : Box w g t cs) (hne : e ≠ t) : some g ≠ v.ownBlock := fun k => by
  obtain ⟨_, cur, hc⟩ := own_block h k.symm
  exact hne (box_type hc hx)
theorem own_ne2 {base base' s s' n n' : Nat} {e t : TypeId} {v' : Value} {xs ys : List Value} (h : w.ownsRow base e s v n xs) (h' : w.ownsRow base' t s' v' n' ys) (hne : e ≠ t) : ∀ g, v'.ownBlock = some g → some g ≠ v.ownBlock := fun g hg => by
  obtain ⟨_, cur, hc⟩ := own_block h' hg
  exact own_ne h hc hne
end
theorem kept_put3 {w : World} {g : Nat} {t : TypeId} {cs : Array Value} (h : Box w g t cs) (x y z : Value) : Kept (fun e => e = t) w (((w.setCell ⟨g, 0, none⟩ x).setCell ⟨g, 1, none⟩ y).setCell ⟨g, 2, none⟩ z) :=
  Kept.trans (Kept.trans (Kept.set (S := fun e => e = t) h rfl x) (Kept.set (S := fun e => e = t) (h.stored 0 x) rfl y)) (Kept.set (S := fun e => e = t) ((h.stored 0 x).stored 1 y) rfl z)
/-- a copy of a clock as it grows: it lies at p, what was there ahead of it stays -/
structure TwR (w1 : World) (p b2 : Nat) (c : Int) (vd : Value) (ds : List Sp) (l : List Wt) (W : World) : Prop where
  bl : Below w1.heap.size w1 W
  ok : w1.heap.size ≤ p ∧ p < b2 ∧ b2 ≤ W.heap.size
  bp : ∃ vW, Box W p 25 #[.int .i64 c, vW, vd] ∧ KO KW W b2 52 vW l
  dn : W.ownsRow w1.heap.size 70 2 vd ds.length (flat spc ds)
theorem TwR.below {w1 W W' : World} {p b2 : Nat} {c : Int} {vd : Value} {ds : List Sp} {l : List Wt} (h : TwR w1 p b2 c vd ds l W) (hb : Below W.heap.size W W') : TwR w1 p b2 c vd ds l W' := by
  obtain ⟨vW, h1, h2⟩ := h.bp
  exact ⟨bmore h.bl hb (Nat.le_refl _), ⟨h.ok.1, h.ok.2.1, Nat.le_trans h.ok.2.2 hb.size⟩, ⟨vW, h1.below hb h1.lt, h2.below hb⟩, own_below3 h.dn hb⟩
theorem twR_next {w1 W Wa W' : World} {p b2 : Nat} {c : Int} {vd vW v2 : Value} {ds : List Sp} {l : List Wt} {x : Wt} {A : Option Addr} {d : Nat} (hT : TwR w1 p b2 c vd ds l W) (hbp : Box W p 25 #[.int .i64 c, vW, vd])
    {k : Nat} (es : List (Ex Wt)) (hk : es.length = k) (hl : es.map Ex.x = l) (ho : W.ownsRow b2 52 7 vW k (flat (exc KW) es)) (hr : ∀ e ∈ es, RowGe W b2 e.A e.c (KW.gs e.x) ∧ ∀ ad, e.A = some ad → 0 < (KW.gs e.x).length → vW.ownBlock ≠ some ad.block)
    (hb : Below W.heap.size W Wa) (h1 : RowGe Wa W.heap.size A d x.m.gs) (hg : Wa.grownBy W' vW.ownBlock)
    (ho2 : W'.ownsRow b2 52 7 v2 (k + 1) (flat (exc KW) es ++ KW.cel A d x)) (hob : v2.ownBlock = vW.ownBlock ∨ v2.ownBlock = some Wa.heap.size) : TwR w1 p b2 c vd ds (l ++ [x]) (W'.setCell ⟨p, 1, none⟩ v2) := by
  subst hk
  have hsz : W.heap.size ≤ Wa.heap.size := hb.size
  have hoa := own_below3 ho hb
  have hbpa := hbp.below hb hbp.lt
  have hdn := own_below3 hT.dn hb
  have hpw := own_ne hoa hbpa (by decide)
  have hbp' := hbpa.grown hg hpw
  have hKO : KO KW W' b2 52 v2 (l ++ [x]) := kO_next (K := KW) es hl (fun e he => ⟨(hr e he).1.below hb, (hr e he).2⟩) (h1.mono hT.ok.2.2) (fun ad ea hn k => by
    obtain ⟨_, cur, hc⟩ := own_block ho k
    have := h1.2 ad ea hn
    have := hc.lt
    omega) hg ho2 hob
  have hk : Kept (· = 25) W' (W'.setCell ⟨p, 1, none⟩ v2) := Kept.set (S := fun e => e = 25) hbp' rfl v2
  refine ⟨?_, ⟨hT.ok.1, hT.ok.2.1, ?_⟩, ⟨v2, by have := hbp'.stored 1 v2; simpa using this, KO.kept hk (by decide) (by decide) hKO⟩, hk.own (own_grown hdn hg (own_ne2 hoa hdn (by decide))) (by decide)⟩
  · refine Below.setCell ?_ (p := ⟨p, 1, none⟩) hT.ok.1 v2
    exact below_row (bmore hT.bl hb (Nat.le_refl _)) (own_base hoa (Nat.le_of_lt (Nat.lt_of_le_of_lt hT.ok.1 hT.ok.2.1))) (Nat.le_trans hT.bl.size hsz) hg
  · have h1 := hT.ok.2.2
    have h2 := hg.size
    show b2 ≤ (W'.setCell ⟨p, 1, none⟩ v2).heap.size
    have : (W'.setCell ⟨p, 1, none⟩ v2).heap.size = W'.heap.size := by simp
    omega
end Go.Proofs.YtnpgjcapekopnaaGreat.KP
