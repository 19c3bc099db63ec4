/- Contracts of functions, P19: each as its theorem says. -/
import Derived.Test.YteebeiaokfenmaaGreatK44
import Derived.Test.YteebeiaokfenmaaGreatP18
set_option linter.unusedVariables false
set_option linter.unusedSimpArgs false
set_option maxRecDepth 100000
set_option maxHeartbeats 16000000
namespace Go.Proofs.YteebeiaokfenmaaGreat
namespace KP
open Go.RowKit CP TP LP
open CM (Mg Cm)
open TM (Sp)
open KM (Wt Sk)
def StpMid (w w1 : World) (R : Sk × List Mg × Bool) (u9 u10 u11 : Value) (wx : World) : Prop :=
 ∃ p9 A n c B d E m f, u9 = .pointer (some ⟨p9, 0, none⟩) ∧ u10 = .slice E m f ∧ u11 = .bool R.2.2 ∧ w1.heap.size ≤ p9 ∧ Box wx p9 39 #[.int .i64 R.1.c, .slice A n c, .slice B R.1.ds.length d] ∧ KO KW wx w1.heap.size 78 (.slice A n c) R.1.ws ∧
  wx.ownsRow w1.heap.size 46 2 (.slice B R.1.ds.length d) R.1.ds.length (flat spc R.1.ds) ∧ KO KM_ wx w1.heap.size 33 (.slice E m f) R.2.1 ∧ Below w1.heap.size w1 wx
theorem info_step : (Tryz.prog.info? 137).map (fun i => (i.zero, i.size, i.bytes)) = some (some (.agg #[.int .u8 0, .int .i64 0, .slice none 0 0, .int .i64 0, .string ⟨#[]⟩, .string ⟨#[]⟩, .int .i64 0, .int .i64 0, .slice none 0 0, .int .i64 0, .int .i64 0, .int .i64 0, .int .i64 0, .slice none 0 0, .slice none 0 0, .int .i64 0, .slice none 0 0, .slice none 0 0, .slice none 0 0]), 19, 280) := by kernel_rfl
structure StEl (W : World) (b : Nat) (g : Int) (cs : List Cm) (j : Nat) (xs : List Value) : Prop where
 ex : ∃ (x : Cm) (A : Option Addr) (c : Nat) (B : Option Addr) (d : Nat) (A5 : Option Addr) (n5 a5 : Nat) (B5 : Option Addr) (m5 b5 : Nat) (A6 : Option Addr) (n6 a6 : Nat) (B6 : Option Addr) (m6 b6 : Nat) (E : Option Addr) (m f : Nat), cs[j]? = some x ∧
  xs = (scells A c B d x (stA g cs j).c (.slice A5 n5 a5) (.slice B5 m5 b5) (stA g cs (j + 1)).c (.slice A6 n6 a6) (.slice B6 m6 b6) (.slice E m f)).toList ∧ RowGe W b A c x.m.gs ∧ RowGe W b B d x.ms ∧
  SkO W b (vsk (stA g cs j).c (.slice A5 n5 a5) (.slice B5 m5 b5)) (stA g cs j) ∧ SkO W b (vsk (stA g cs (j + 1)).c (.slice A6 n6 a6) (.slice B6 m6 b6)) (stA g cs (j + 1)) ∧ KO KM_ W b 33 (.slice E m f) (OM.one (stA g cs j) g x).2
theorem StEl.kept {S : TypeId → Prop} {W W' : World} {b : Nat} {g : Int} {cs : List Cm} {j : Nat} {xs : List Value} (h : StEl W b g cs j xs) (k : Kept S W W') (h1 : ¬ S 3) (h2 : ¬ S 78) (h3 : ¬ S 46) (h4 : ¬ S 33) : StEl W' b g cs j xs := by
 obtain ⟨x, A, c, B, d, A5, n5, a5, B5, m5, b5, A6, n6, a6, B6, m6, b6, E, m, f, k1, k2, k3, k4, k5, k6, k7⟩ := h.ex
 exact ⟨x, A, c, B, d, A5, n5, a5, B5, m5, b5, A6, n6, a6, B6, m6, b6, E, m, f, k1, k2, rowGe_kept k h1 k3, rowGe_kept k h1 k4, sko_kept k5 k h1 h2 h3, sko_kept k6 k h1 h2 h3, k7.kept k h1 h4⟩
def StO (W : World) (b : Nat) (g : Int) (cs : List Cm) (v : Value) (k : Nat) : Prop := ∃ xs : List (List Value), xs.length = k ∧ W.ownsRow b 137 19 v k (flat (fun l => l) xs) ∧ ∀ j l, xs[j]? = some l → StEl W b g cs j l
theorem StO.kept {S : TypeId → Prop} {W W' : World} {b : Nat} {g : Int} {cs : List Cm} {v : Value} {k : Nat} (h : StO W b g cs v k) (q : Kept S W W') (h1 : ¬ S 3) (h2 : ¬ S 78) (h3 : ¬ S 46) (h4 : ¬ S 33) (h5 : ¬ S 137) : StO W' b g cs v k := by
 obtain ⟨xs, k1, k2, k3⟩ := h
 exact ⟨xs, k1, q.own k2 h5, fun j l hl => (k3 j l hl).kept q h1 h2 h3 h4⟩
theorem Kept.no {W W' : World} (h : Below W.heap.size W W') : Kept (fun _ => False) W W' := Kept.of_below h
theorem StO.below {W W' : World} {b : Nat} {g : Int} {cs : List Cm} {v : Value} {k : Nat} (h : StO W b g cs v k) (hb : Below W.heap.size W W') : StO W' b g cs v k := h.kept (Kept.no hb) id id id id id
structure SsR (w : World) (g : Int) (cs : List Cm) (sv : Value) (q k : Nat) (A5 : Option Addr) (n5 a5 : Nat) (B5 : Option Addr) (m5 b5 : Nat) (u : Value) (wr : World) : Prop where
 bl : Below w.heap.size w wr
 bq : w.heap.size ≤ q
 cm : CmsO wr w.heap.size sv cs
 bx : Box wr q 39 #[.int .i64 (stA g cs k).c, .slice A5 n5 a5, .slice B5 m5 b5]
 sk : SkO wr w.heap.size (vsk (stA g cs k).c (.slice A5 n5 a5) (.slice B5 m5 b5)) (stA g cs k)
 st : StO wr w.heap.size g cs u k
theorem cmsO_kept16 {S : TypeId → Prop} {w w' : World} {b : Nat} {v : Value} {cs : List Cm} (h : CmsO w b v cs) (k : Kept S w w') (hi : ¬ S 3) (hc : ¬ S 91) : CmsO w' b v cs := by
 obtain ⟨l, h1, h2, h3⟩ := h
 refine ⟨l, h1, k.own h2 hc, fun e he => ?_⟩
 obtain ⟨g1, g2, g3, g4, g5, g6⟩ := h3 e he
 have r1 := rowGe_kept k hi (⟨g1, fun ad e hn => (g3 ad e hn).1, g5⟩ : RowGe w b e.A e.c e.x.m.gs)
 have r2 := rowGe_kept k hi (⟨g2, fun ad e hn => (g4 ad e hn).1, g6⟩ : RowGe w b e.B e.d e.x.ms)
 exact ⟨r1.1, r2.1, g3, g4, r1.3, r2.3⟩
theorem SsR.below {w : World} {g : Int} {cs : List Cm} {sv : Value} {q k : Nat} {A5 : Option Addr} {n5 a5 : Nat} {B5 : Option Addr} {m5 b5 : Nat} {u : Value} {wr W : World} (h : SsR w g cs sv q k A5 n5 a5 B5 m5 b5 u wr) (hb : Below wr.heap.size wr W) : SsR w g cs sv q k A5 n5 a5 B5 m5 b5 u W :=
 ⟨bmore h.bl hb n!, h.bq, h.cm.below hb, h.bx.below hb h.bx.lt, h.sk.below hb, h.st.below hb⟩
theorem SsR.put {w : World} {g : Int} {cs : List Cm} {sv : Value} {q k : Nat} {A5 : Option Addr} {n5 a5 : Nat} {B5 : Option Addr} {m5 b5 : Nat} {u : Value} {wr : World} {p : Nat} {x y z : Value} (h : SsR w g cs sv q k A5 n5 a5 B5 m5 b5 u wr) {a b c : Value} (hp : Box wr p 39 #[a, b, c]) (hpq : q ≠ p) (hwp : w.heap.size ≤ p) :
  SsR w g cs sv q k A5 n5 a5 B5 m5 b5 u (((wr.setCell ⟨p, 0, none⟩ x).setCell ⟨p, 1, none⟩ y).setCell ⟨p, 2, none⟩ z) := by
 have k3 := kept_put3 hp x y z
 exact ⟨below_put3 h.bl hwp x y z, h.bq, cmsO_kept16 h.cm k3 (by decide) (by decide), h.bx.putFar3 hpq x y z, sko_kept h.sk k3 (by decide) (by decide) (by decide), h.st.kept k3 (by decide) (by decide) (by decide) (by decide) (by decide)⟩
theorem SsR.next {w : World} {g : Int} {cs : List Cm} {sv : Value} {q k : Nat} {A5 : Option Addr} {n5 a5 : Nat} {B5 : Option Addr} {m5 b5 : Nat} {u v2 : Value} {W w7 : World} {A8 : Option Addr} {n8 a8 : Nat} {B8 : Option Addr} {m8 b8 : Nat} {xs : List (List Value)} {el : List Value} (h : SsR w g cs sv q k A5 n5 a5 B5 m5 b5 u W)
  (hs : SkO W w.heap.size (vsk (stA g cs (k + 1)).c (.slice A8 n8 a8) (.slice B8 m8 b8)) (stA g cs (k + 1))) (he : StEl W w.heap.size g cs k el) (hx : xs.length = k) (ho : W.ownsRow w.heap.size 137 19 u k (flat (fun l => l) xs)) (hel : ∀ j l, xs[j]? = some l → StEl W w.heap.size g cs j l)
  (ho7 : w7.ownsRow w.heap.size 137 19 v2 (k + 1) (flat (fun l => l) xs ++ el)) (hg : W.grownBy w7 u.ownBlock) :
  SsR w g cs sv q (k + 1) A8 n8 a8 B8 m8 b8 v2 (((w7.setCell ⟨q, 0, none⟩ (.int .i64 (stA g cs (k + 1)).c)).setCell ⟨q, 1, none⟩ (.slice A8 n8 a8)).setCell ⟨q, 2, none⟩ (.slice B8 m8 b8)) := by
 have k2 : Kept (fun e => e = 137) W w7 := Kept.grown ho rfl hg
 have bq7 := k2.box _ _ _ (by decide) h.bx
 have k3 := kept_put3 bq7 (.int .i64 (stA g cs (k + 1)).c) (.slice A8 n8 a8) (.slice B8 m8 b8)
 have hb7 : Below w.heap.size w w7 := h.bl.grown hg h.bl.size fun j hj => (own_block ho hj).1
 refine ⟨below_put3 hb7 h.bq _ _ _, h.bq, cmsO_kept16 (cmsO_kept16 h.cm k2 (by decide) (by decide)) k3 (by decide) (by decide), bq7.put3 _ _ _, sko_kept (sko_kept hs k2 (by decide) (by decide) (by decide)) k3 (by decide) (by decide) (by decide), ?_⟩
 refine ⟨xs ++ [el], by simp [hx], ?_, fun j l hl => ?_⟩
 ·have := k3.own ho7 (by decide)
  rw [flat_append, flat_one]
  exact this
 ·have key : ∀ j l, StEl W w.heap.size g cs j l → StEl (((w7.setCell ⟨q, 0, none⟩ (.int .i64 (stA g cs (k + 1)).c)).setCell ⟨q, 1, none⟩ (.slice A8 n8 a8)).setCell ⟨q, 2, none⟩ (.slice B8 m8 b8)) w.heap.size g cs j l := fun j l hh =>
   (hh.kept k2 (by decide) (by decide) (by decide) (by decide)).kept k3 (by decide) (by decide) (by decide) (by decide)
  by_cases hj : j < xs.length
  ·rw [List.getElem?_append_left hj] at hl
   exact key j l (hel j l hl)
  ·have hjl := (List.getElem?_eq_some_iff.1 hl).1
   rw [List.length_append, List.length_singleton] at hjl
   obtain rfl : j = xs.length := by omega
   rw [List.getElem?_append_right n!] at hl
   simp at hl
   subst hl
   rw [hx]
   exact key k _ he
end KP
end Go.Proofs.YteebeiaokfenmaaGreat
