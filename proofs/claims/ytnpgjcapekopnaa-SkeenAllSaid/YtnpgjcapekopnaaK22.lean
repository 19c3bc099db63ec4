/-
  What the walk of SkeenRises carries behind some of the commands. No walk.
  What the walk of SkeenAll carries behind some of the finals. No walk.
-/
import Derived.Test.YtnpgjcapekopnaaK15
import Derived.Test.YtnpgjcapekopnaaK20
import Derived.Test.YtnpgjcapekopnaaK19
import Derived.Test.YtnpgjcapekopnaaK05
import Derived.Test.YtnpgjcapekopnaaK18
import Derived.Test.YtnpgjcapekopnaaK17
namespace Go.Proofs.Ytnpgjcapekopnaa.KP
open Go.RowKit CP TP
open CM (Mg Cm)
open TM (Sp)
open KM (Wt Sk)
set_option linter.unusedVariables false
set_option linter.unusedSimpArgs false
set_option maxRecDepth 100000
/-- a clock that came in, or one of the call's own -/
def CurI (w : World) (v : Value) (s : Sk) (W : World) : Prop := SkIs w v s ∨ SkO W w.heap.size v s
theorem CurI.is {w W : World} {v : Value} {s : Sk} (h : CurI w v s W) (hb : Below w.heap.size w W) : SkIs W v s := by
  rcases h with h | h
  · exact h.below hb
  · exact h.is
theorem CurI.below {w W W' : World} {v : Value} {s : Sk} (h : CurI w v s W) (hb : Below W.heap.size W W') : CurI w v s W' := by
  rcases h with h | h
  · exact .inl h
  · exact .inr (h.below hb)
theorem skO_kept {S : TypeId → Prop} {W W' : World} {b : Nat} {v : Value} {s : Sk} (h : SkO W b v s) (hk : Kept S W W') (h1 : ¬ S 3) (h2 : ¬ S 55) (h3 : ¬ S 50) : SkO W' b v s := by
  obtain ⟨vw, vd, e, k1, k2⟩ := h
  exact ⟨vw, vd, e, KO.kept hk h1 h2 k1, hk.own k2 h3⟩
theorem CurI.kept {S : TypeId → Prop} {w W W' : World} {v : Value} {s : Sk} (h : CurI w v s W) (hk : Kept S W W') (h1 : ¬ S 3) (h2 : ¬ S 55) (h3 : ¬ S 50) : CurI w v s W' := by
  rcases h with h | h
  · exact .inl h
  · exact .inr (skO_kept h hk h1 h2 h3)
/-- a clock in a variable -/
def SkVar (w : World) (p : Nat) (s : Sk) (W : World) : Prop := ∃ A c B d, Box W p 25 #[.int .i64 s.c, .slice A s.ws.length c, .slice B s.ds.length d] ∧ CurI w (vsk s.c (.slice A s.ws.length c) (.slice B s.ds.length d)) s W
theorem SkVar.below {w W W' : World} {p : Nat} {s : Sk} (h : SkVar w p s W) (hb : Below W.heap.size W W') : SkVar w p s W' := by
  obtain ⟨A, c, B, d, h1, h2⟩ := h
  exact ⟨A, c, B, d, h1.below hb h1.lt, h2.below hb⟩
theorem SkVar.kept {S : TypeId → Prop} {w W W' : World} {p : Nat} {s : Sk} (h : SkVar w p s W) (hk : Kept S W W') (h0 : ¬ S 25) (h1 : ¬ S 3) (h2 : ¬ S 55) (h3 : ¬ S 50) : SkVar w p s W' := by
  obtain ⟨A, c, B, d, k1, k2⟩ := h
  exact ⟨A, c, B, d, hk.box _ _ _ h0 k1, k2.kept hk h1 h2 h3⟩
/-- another variable of that type is stored -/
theorem SkVar.far {w W : World} {p q : Nat} {s : Sk} {cs : Array Value} (h : SkVar w p s W) (hq : Box W q 25 cs) (hn : p ≠ q) (x y z : Value) : SkVar w p s (((W.setCell ⟨q, 0, none⟩ x).setCell ⟨q, 1, none⟩ y).setCell ⟨q, 2, none⟩ z) := by
  obtain ⟨A, c, B, d, k1, k2⟩ := h
  exact ⟨A, c, B, d, ((k1.far (p := ⟨q, 0, none⟩) hn x).far (p := ⟨q, 1, none⟩) hn y).far (p := ⟨q, 2, none⟩) hn z, k2.kept (kept_put3 hq x y z) (by decide) (by decide) (by decide)⟩
theorem SkVar.put {w W : World} {p : Nat} {s s' : Sk} {A B : Option Addr} {c d : Nat} (h : SkVar w p s W) (h2 : CurI w (vsk s'.c (.slice A s'.ws.length c) (.slice B s'.ds.length d)) s' W) :
    SkVar w p s' (((W.setCell ⟨p, 0, none⟩ (.int .i64 s'.c)).setCell ⟨p, 1, none⟩ (.slice A s'.ws.length c)).setCell ⟨p, 2, none⟩ (.slice B s'.ds.length d)) := by
  obtain ⟨A0, c0, B0, d0, k1, _⟩ := h
  exact ⟨A, c, B, d, Box.put3 k1 _ _ _, h2.kept (kept_put3 k1 _ _ _) (by decide) (by decide) (by decide)⟩
/-- behind some of the commands -/
structure RiR (w : World) (p3 p8 : Nat) (first : Sk) (l : List Cm) (g : Int) (st : Sk) (all : List Mg) (vm : Value) (k : Nat) (W : World) : Prop where
  bl : Below w.heap.size w W
  lo : w.heap.size ≤ p3 ∧ w.heap.size ≤ p8 ∧ p3 ≠ p8
  v3 : SkVar w p3 st W
  v8 : SkVar w p8 first W
  fit : SkFit st
  ms : KO KM_ W w.heap.size 31 vm all
  run : KM.Run first l g st all
  le : all.length ≤ 200 * k
section
variable {w W W' : World} {p3 p8 k : Nat} {first st : Sk} {l : List Cm} {g : Int} {all : List Mg} {vm : Value}
theorem RiR.skip (h : RiR w p3 p8 first l g st all vm k W) (hb : Below W.heap.size W W') : RiR w p3 p8 first l g st all vm (k + 1) W' :=
  ⟨bmore h.bl hb (Nat.le_refl _), h.lo, h.v3.below hb, h.v8.below hb, h.fit, h.ms.below hb, h.run, by have := h.le; omega⟩
theorem RiR.below (h : RiR w p3 p8 first l g st all vm k W) (hb : Below W.heap.size W W') : RiR w p3 p8 first l g st all vm k W' :=
  ⟨bmore h.bl hb (Nat.le_refl _), h.lo, h.v3.below hb, h.v8.below hb, h.fit, h.ms.below hb, h.run, h.le⟩
/-- a command was done: the variable holds what it made, what was delivered is behind the others -/
theorem RiR.next {c : Cm} {A B : Option Addr} {ca cb : Nat} {W1 W2 : World} {vm2 : Value} (h : RiR w p3 p8 first l g st all vm k W) (hb : Below W.heap.size W W1) (hc : c ∈ l) (hok : (KM.applyF st g c).2.2 = 0) {b2 : Nat} (hb2 : w.heap.size ≤ b2)
    (hs : SkO W1 b2 (vsk (KM.applyF st g c).1.c (.slice A (KM.applyF st g c).1.ws.length ca) (.slice B (KM.applyF st g c).1.ds.length cb)) (KM.applyF st g c).1)
    (hk : ∀ W0, W0 = ((W1.setCell ⟨p3, 0, none⟩ (.int .i64 (KM.applyF st g c).1.c)).setCell ⟨p3, 1, none⟩ (.slice A (KM.applyF st g c).1.ws.length ca)).setCell ⟨p3, 2, none⟩ (.slice B (KM.applyF st g c).1.ds.length cb) → W0.grownBy W2 vm.ownBlock ∧ KO KM_ W2 w.heap.size 31 vm2 (all ++ (KM.applyF st g c).2.1)) :
    RiR w p3 p8 first l g (KM.applyF st g c).1 (all ++ (KM.applyF st g c).2.1) vm2 (k + 1) W2 := by
  obtain ⟨hg, hko⟩ := hk _ rfl
  have h1 := h.below hb
  obtain ⟨A0, c0, B0, d0, b3, _⟩ := h1.v3
  have hv3 := h1.v3.put (s' := (KM.applyF st g c).1) (A := A) (B := B) (c := ca) (d := cb) (.inr (hs.mono hb2))
  have hv8 := h1.v8.far b3 (Ne.symm h.lo.2.2) (.int .i64 (KM.applyF st g c).1.c) (.slice A (KM.applyF st g c).1.ws.length ca) (.slice B (KM.applyF st g c).1.ds.length cb)
  have hkp := kept_put3 b3 (.int .i64 (KM.applyF st g c).1.c) (.slice A (KM.applyF st g c).1.ws.length ca) (.slice B (KM.applyF st g c).1.ds.length cb)
  have hms := KO.kept hkp (by decide) (by decide) h1.ms
  have hbl := below_put3 h1.bl h.lo.1 (.int .i64 (KM.applyF st g c).1.c) (.slice A (KM.applyF st g c).1.ws.length ca) (.slice B (KM.applyF st g c).1.ds.length cb)
  obtain ⟨es, _, ho, _⟩ := id hms
  have hkg : Kept (fun e => e = 31) _ W2 := Kept.grown (S := fun e => e = 31) ho rfl hg
  refine ⟨below_row hbl ho (by simp; have := h1.bl.size; omega) hg, h.lo, hv3.kept hkg (by decide) (by decide) (by decide) (by decide), hv8.kept hkg (by decide) (by decide) (by decide) (by decide), fit_apply _ _ _, hko, (KM.run_next h.run hc hok).1, ?_⟩
  have h2 := apply_len st g c
  have h3 := h.le
  rw [List.length_append]
  omega
end
theorem skIs_ds {w : World} {c : Int} {A B : Option Addr} {n ca m cb : Nat} {s : Sk} (h : SkIs w (vsk c (.slice A n ca) (.slice B m cb)) s) : SpsIs w B m cb s.ds := by
  obtain ⟨A', c', B', d', e, h1, h2⟩ := h
  unfold vsk at e
  simp only [Value.agg.injEq, Array.mk.injEq, List.cons.injEq, Value.slice.injEq, and_true] at e
  obtain ⟨_, _, e1, e2, e3⟩ := e
  subst e1 e2 e3
  exact h2
theorem sps_take {w : World} {A : Option Addr} {n c k : Nat} {l : List Sp} (h : SpsIs w A n c l) (hk : k ≤ n) : SpsIs w A k c (l.take k) := by
  obtain ⟨⟨h1, h2⟩, h3, h4, h5⟩ := h
  have hl : (l.take k).length = k := by rw [List.length_take]; omega
  have he : flat spc (l.take k) = (flat spc l).take (k * 2) := (flat_takeK (f := spc) (s := 2) l k (fun a _ => rfl)).symm
  refine ⟨⟨by rw [flat_length (f := spc) (s := 2) (fun a _ => rfl), hl], fun hp => ?_⟩, hl, by omega, h5⟩
  obtain ⟨ad, e, hb, hc⟩ := h2 (by omega)
  refine ⟨ad, e, hb, fun j u hu => hc j u ?_⟩
  rw [he, List.getElem?_take] at hu
  split at hu
  · exact hu
  · cases hu
theorem sps_own {w : World} {b : Nat} {B : Option Addr} {n d : Nat} {l : List Sp} (h : w.ownsRow b 50 2 (.slice B n d) n (flat spc l)) (hl : l.length = n) : SpsIs w B n d l := by
  obtain ⟨_, _, e, h1, h2⟩ := own_form h
  injection e with e1 e2 e3
  subst e3
  exact ⟨rdg_own h, hl, h1, h2⟩
end Go.Proofs.Ytnpgjcapekopnaa.KP

namespace Go.Proofs.Ytnpgjcapekopnaa.KP
open Go.RowKit CP TP
open CM (Mg Cm)
open TM (Sp)
open KM (Wt Sk)
set_option linter.unusedVariables false
set_option linter.unusedSimpArgs false
set_option maxRecDepth 100000
/-- of the first clock those that wait from place k on, and are not final, still wait; and no others do so -/
def AllI (x st : Sk) (k : Nat) : Prop := KM.may st ∧ st.ws.length + st.ds.length = x.ws.length + x.ds.length ∧ (∀ (j : Nat) y, k ≤ j → x.ws[j]? = some y → y.f = false → y ∈ st.ws) ∧ ∀ y ∈ st.ws, y.f = false → ∃ j, k ≤ j ∧ x.ws[j]? = some y
theorem allI_start {x : Sk} (h : KM.may x) : AllI x x 0 := ⟨h, rfl, fun j y _ hy _ => List.mem_of_getElem? hy, fun y hy _ => by
  obtain ⟨j, hj⟩ := List.getElem?_of_mem hy
  exact ⟨j, Nat.zero_le _, hj⟩⟩
theorem allI_skip {x st : Sk} {k : Nat} {y : Wt} (h : AllI x st k) (hy : x.ws[k]? = some y) (hf : y.f = true) : AllI x st (k + 1) := by
  obtain ⟨h1, h2, h3, h4⟩ := h
  refine ⟨h1, h2, fun j z hj hz hzf => h3 j z (by omega) hz hzf, fun z hz hzf => ?_⟩
  obtain ⟨j, hj, hjz⟩ := h4 z hz hzf
  refine ⟨j, ?_, hjz⟩
  rcases Nat.lt_or_ge k j with h5 | h5
  · exact h5
  · obtain rfl : j = k := by omega
    rw [hy] at hjz
    injection hjz with hjz
    rw [← hjz, hf] at hzf
    cases hzf
theorem apply_may {s : Sk} {g : Int} {c : Cm} (h : (KM.applyF s g c).2.2 = 0) : CM.may c := by
  refine (wrong_no (s := s) (g := g) (Classical.byContradiction fun hn => ?_)).2.2
  rw [apply_wrong hn] at h
  exact hn h
theorem allI_next {x st : Sk} {k : Nat} {y : Wt} {t : Int} (hx : KM.may x) (h : AllI x st k) (hy : x.ws[k]? = some y) (hf : y.f = false) (ht : y.t ≤ t) (hok : (KM.applyF st 0 (finC y.m.id t)).2.2 = 0) : AllI x (KM.applyF st 0 (finC y.m.id t)).1 (k + 1) := by
  obtain ⟨h1, h2, h3, h4⟩ := h
  obtain ⟨g1, g2, g3, g4⟩ := KM.fin_ok h1 (h3 k y (Nat.le_refl _) hy hf) hf ht rfl rfl rfl (apply_may hok) 0 ⟨by decide, by decide⟩ hok
  have hne : ∀ (j : Nat) z, k + 1 ≤ j → x.ws[j]? = some z → z ≠ y := fun j z hj hz e => by
    have := KM.rise_get hx.2.2.1.2 (i := k) (j := j) (by omega) hy hz
    rw [e] at this
    omega
  refine ⟨g1, by omega, fun j z hj hz hzf => g3 z (h3 j z (by omega) hz hzf) hzf (hne j z hj hz), fun z hz hzf => ?_⟩
  obtain ⟨k1, k2⟩ := g4 z hz hzf
  obtain ⟨j, hj, hjz⟩ := h4 z k1 hzf
  refine ⟨j, ?_, hjz⟩
  rcases Nat.lt_or_ge k j with h5 | h5
  · exact h5
  · obtain rfl : j = k := by omega
    rw [hy] at hjz
    injection hjz with hjz
    exact absurd hjz.symm k2
theorem allI_no {x st : Sk} {k : Nat} {y : Wt} {t : Int} (h : AllI x st k) (hy : x.ws[k]? = some y) (hf : y.f = false) (ht : y.t ≤ t) (hno : (KM.applyF st 0 (finC y.m.id t)).2.2 ≠ 0) : 1073741824 < t ∨ 200 < x.ws.length + x.ds.length := by
  obtain ⟨h1, h2, h3, h4⟩ := h
  rw [← h2]
  exact KM.fin_no h1 (h3 k y (Nat.le_refl _) hy hf) rfl ht 0 ⟨by decide, by decide⟩ hno
theorem allI_end {x st : Sk} {k : Nat} (h : AllI x st k) (hk : x.ws.length ≤ k) : st.ws = [] ∧ st.ds.length = x.ws.length + x.ds.length := by
  obtain ⟨h1, h2, h3, h4⟩ := h
  have he : st.ws = [] := KM.all_final h1 fun y hy => by
    rcases hf : y.f with _ | _
    · obtain ⟨j, hj, hjy⟩ := h4 y hy hf
      have := (List.getElem?_eq_some_iff.1 hjy).1
      omega
    · rfl
  rw [he] at h2
  simp at h2
  exact ⟨he, h2⟩
/-- behind some of the finals -/
structure AlR (w : World) (p2 : Nat) (x st : Sk) (A7 : Option Addr) (n c7 k : Nat) (W : World) : Prop where
  bl : Below w.heap.size w W
  lo : w.heap.size ≤ p2
  v2 : SkVar w p2 st W
  ws : KO KW W w.heap.size 55 (.slice A7 n c7) x.ws
  inv : AllI x st k
section
variable {w W W' : World} {p2 n c7 k : Nat} {x st : Sk} {A7 : Option Addr}
theorem AlR.below (h : AlR w p2 x st A7 n c7 k W) (hb : Below W.heap.size W W') : AlR w p2 x st A7 n c7 k W' :=
  ⟨bmore h.bl hb (Nat.le_refl _), h.lo, h.v2.below hb, h.ws.below hb, h.inv⟩
theorem AlR.put {s' : Sk} {A B : Option Addr} {c d b2 : Nat} (h : AlR w p2 x st A7 n c7 k W) (hi : AllI x s' (k + 1)) (hb2 : w.heap.size ≤ b2) (hs : SkO W b2 (vsk s'.c (.slice A s'.ws.length c) (.slice B s'.ds.length d)) s') :
    AlR w p2 x s' A7 n c7 (k + 1) (((W.setCell ⟨p2, 0, none⟩ (.int .i64 s'.c)).setCell ⟨p2, 1, none⟩ (.slice A s'.ws.length c)).setCell ⟨p2, 2, none⟩ (.slice B s'.ds.length d)) := by
  obtain ⟨A0, c0, B0, d0, b3, _⟩ := id h.v2
  exact ⟨below_put3 h.bl h.lo _ _ _, h.lo, h.v2.put (.inr (hs.mono hb2)), KO.kept (kept_put3 b3 _ _ _) (by decide) (by decide) h.ws, hi⟩
end
end Go.Proofs.Ytnpgjcapekopnaa.KP
