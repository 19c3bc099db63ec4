/- Contracts of functions of towncrier, layers 5 to 9, and of the document's own ones, part 4; each as its theorem says. -/
import Derived.Test.YtiiobafcgdelmaaGreatL03
import Derived.Test.YtiiobafcgdelmaaGreatL01
import Derived.Test.YtiiobafcgdelmaaGreatProg
import Derived.Lib.Hide
import Derived.Lib.MinMax
import Derived.WalkKit
import Derived.Lib.Strings
import Derived.Lib.Slices
import Derived.Lib.Small
import Derived.Lib.Walk
import Derived.Lib.BitFns
import Derived.IntWalk
import Derived.Laws.BitsLemmas
set_option linter.unusedVariables false
set_option linter.unusedSimpArgs false
namespace Go.Proofs.YtiiobafcgdelmaaGreat.DC
structure May0 (w : Wd) : Prop where
 ms : QM.may w.ms = true
 vl : w.vs.length = 6
 tl : w.ts.length = 6
 vs : ∀ v ∈ w.vs, VM.may v.p v.b v.v
 ts : ∀ (i : Nat) t, w.ts[i]? = some t → MayT w.ms i t
 mm : ∀ m ∈ w.ml, MayM m
 cc : ∀ c ∈ w.ch, MayC c
theorem May.zero {w : Wd} (h : May w) : May0 w := ⟨h.ms, h.vl, h.tl, h.vs, h.ts, h.mm, h.cc⟩
theorem May0.may {w : Wd} (h : May0 w) (h1 : w.ml.length ≤ 1000) (h2 : w.ch.length ≤ 1000) : May w := ⟨h.ms, h.vl, h.tl, h1, h2, h.vs, h.ts, h.mm, h.cc⟩
theorem set_get {α : Type} {l : List α} {n i : Nat} {a x : α} (h : (l.set n a)[i]? = some x) : (i = n ∧ x = a) ∨ (i ≠ n ∧ l[i]? = some x) := by
 by_cases e : n = i
 ·subst e
  rw [List.getElem?_set] at h
  simp at h
  exact .inl ⟨rfl, h.2.symm⟩
 ·rw [List.getElem?_set_ne e] at h
  exact .inr ⟨fun e' => e e'.symm, h⟩
theorem node_nat {n : Int} (h : isNode n) : ((n.toNat : Nat) : Int) = n ∧ n.toNat < 6 := by unfold isNode at h; omega
theorem getV_at {w : Wd} {n : Int} (h : w.vs.length = 6) (hn : isNode n) : w.vs[n.toNat]? = some (getV w n) := by
 have hl : n.toNat < w.vs.length := by rw [h]; exact (node_nat hn).2
 unfold getV
 rw [List.getElem?_eq_getElem hl]
 rfl
theorem getT_at {w : Wd} {n : Int} (h : w.ts.length = 6) (hn : isNode n) : w.ts[n.toNat]? = some (getT w n) := by
 have hl : n.toNat < w.ts.length := by rw [h]; exact (node_nat hn).2
 unfold getT
 rw [List.getElem?_eq_getElem hl]
 rfl
theorem May0.vote {w : Wd} {n : Int} (h : May0 w) (hn : isNode n) : VM.may (getV w n).p (getV w n).b (getV w n).v := h.vs _ (List.mem_of_getElem? (getV_at h.vl hn))
theorem May0.try_ {w : Wd} {n : Int} (h : May0 w) (hn : isNode n) : MayT w.ms n (getT w n) := by
 have := h.ts _ _ (getT_at h.tl hn)
 rwa [(node_nat hn).1] at this
theorem member_node {ms : List Int} (h : QM.may ms = true) {x : Int} (hx : x ∈ ms) : isNode x := by
 have := AM.may_mem h x hx
 unfold isNode; omega
theorem May0.setV {w : Wd} (h : May0 w) (n : Nat) {v : Vt} (hv : VM.may v.p v.b v.v) : May0 ⟨w.ms, w.vs.set n v, w.ts, w.ml, w.ch⟩ :=
 ⟨h.ms, by simp [h.vl], h.tl, fun x hx => by
  obtain ⟨i, hi⟩ := List.getElem?_of_mem hx
  rcases set_get hi with ⟨_, rfl⟩ | ⟨_, hi⟩
  ·exact hv
  ·exact h.vs _ (List.mem_of_getElem? hi), h.ts, h.mm, h.cc⟩
theorem May0.setT {w : Wd} (h : May0 w) {n : Int} (hn : isNode n) {t : AM.At} (ht : MayT w.ms n t) : May0 ⟨w.ms, w.vs, w.ts.set n.toNat t, w.ml, w.ch⟩ :=
 ⟨h.ms, h.vl, by simp [h.tl], h.vs, fun i x hx => by
  rcases set_get hx with ⟨rfl, rfl⟩ | ⟨_, hx⟩
  ·rw [(node_nat hn).1]; exact ht
  ·exact h.ts _ _ hx, h.mm, h.cc⟩
theorem May0.addM {w : Wd} (h : May0 w) {l : List Ml} (hl : ∀ m ∈ l, MayM m) : May0 ⟨w.ms, w.vs, w.ts, w.ml ++ l, w.ch⟩ :=
 ⟨h.ms, h.vl, h.tl, h.vs, h.ts, fun m hm => by
  rcases List.mem_append.1 hm with hm | hm
  ·exact h.mm m hm
  ·exact hl m hm, h.cc⟩
theorem May0.addC {w : Wd} (h : May0 w) {l : List Ch} (hl : ∀ c ∈ l, MayC c) : May0 ⟨w.ms, w.vs, w.ts, w.ml, w.ch ++ l⟩ :=
 ⟨h.ms, h.vl, h.tl, h.vs, h.ts, h.mm, fun m hm => by
  rcases List.mem_append.1 hm with hm | hm
  ·exact h.cc m hm
  ·exact hl m hm⟩
theorem May0.cutM {w : Wd} (h : May0 w) (j : Nat) : May0 (gone w j) := ⟨h.ms, h.vl, h.tl, h.vs, h.ts, fun m hm => h.mm m (List.mem_of_mem_eraseIdx hm), h.cc⟩
theorem bestF_size : ∀ {l : List AM.Pr} {m : Int} {s : ByteArray}, s.size ≤ 1024 → (∀ p ∈ l, p.v.size ≤ 1024) → (AM.bestF m s l).size ≤ 1024
 | [], m, s, hs, _ => hs
 | p :: l, m, s, hs, hl => by
  unfold AM.bestF
  split
  ·exact bestF_size (hl p (List.mem_cons_self ..)) (fun q hq => hl q (List.mem_cons_of_mem _ hq))
  ·exact bestF_size hs (fun q hq => hl q (List.mem_cons_of_mem _ hq))
theorem okP_size {b : Int} {p : AM.Pr} (h : AM.okP b p = true) : p.v.size ≤ 1024 := by
 unfold AM.okP at h
 split at h
 ·have : p.v = .empty := by simpa using h
  rw [this]; decide
 ·simp only [Bool.and_eq_true, decide_eq_true_eq] at h
  exact h.2.2
theorem okP_bal {b : Int} {p : AM.Pr} (h : AM.okP b p = true) (hb : BM.good b) : p.b < b ∧ 0 ≤ p.b := by
 unfold AM.okP at h
 unfold BM.good at hb
 split at h
 ·omega
 ·simp only [Bool.and_eq_true, decide_eq_true_eq] at h
  have := h.1
  unfold BM.good at this
  omega
structure Tell (ms : List Int) (n : Int) (a : AM.At) : Prop where
 may : AM.may a = true
 ph : 2 ≤ a.ph
 ba : a.ba % 8 = n
 ms : a.ms = ms
theorem may_good {a : AM.At} (h : AM.may a = true) (h0 : ¬ a.ph = 0) : BM.good a.ba ∧ a.wi.size ≤ 1024 ∧ a.ps.all (AM.okP a.ba) = true := by
 obtain ⟨_, _, k, _⟩ := AM.may_pos h h0
 obtain ⟨g1, g2, _, _⟩ := AM.okL_parts'.1 k
 unfold AM.okB at g1
 simp only [Bool.and_eq_true, decide_eq_true_eq] at g1
 exact ⟨g1.2.1, g1.2.2, g2⟩
theorem Tell.va {ms : List Int} {n : Int} {a : AM.At} (h : Tell ms n a) : a.va.size ≤ 1024 ∧ a.va = AM.best a.ps a.wi ∧ AM.most a.ms (AM.nodes a.ps) = true := by
 have h2 := h.ph
 obtain ⟨_, _, _, k⟩ := AM.may_pos h.may (by omega)
 rw [if_neg (by omega)] at k
 obtain ⟨_, g2, g3⟩ := may_good h.may (by omega)
 refine ⟨?_, k.2.1, k.1⟩
 rw [k.2.1]
 exact bestF_size g2 (fun p hp => okP_size (List.all_eq_true.1 g3 p hp))
theorem Tell.good {ms : List Int} {n : Int} {a : AM.At} (h : Tell ms n a) : BM.good a.ba := (may_good h.may (by have := h.ph; omega)).1
theorem Tell.t {ms : List Int} {n : Int} {a : AM.At} (h : Tell ms n a) : MayT ms n a := ⟨h.may, .inr ⟨h.ba, h.ms⟩⟩
theorem Tell.acc {ms : List Int} {n x : Int} {a : AM.At} {b : Int} (h : Tell ms n a) (he : AM.errA a b x = 0) : Tell ms n (AM.acc a b x) ∧ (AM.acc a b x).va = a.va ∧ (AM.acc a b x).ba = a.ba ∧ (AM.acc a b x).ac = AM.addIs a.ac x ∧ (AM.acc a b x).ps = a.ps ∧ (AM.acc a b x).wi = a.wi := by
 have e := AM.acc_eq he
 refine ⟨⟨AM.may_acc he, ?_, by rw [e]; exact h.ba, by rw [e]; exact h.ms⟩, by rw [e], by rw [e], by rw [e], by rw [e], by rw [e]⟩
 rw [e]; show 2 ≤ (if _ then (3 : Int) else 2); split <;> omega
theorem mem_found {n was : Int} {t : AM.At} {c : Ch} (h : c ∈ found n was t) : c = ⟨n, t.va⟩ ∧ t.ph = 3 := by
 unfold found at h
 split at h
 ·rename_i k; simp at h; exact ⟨h, k.2⟩
 ·cases h
theorem found_len (n was : Int) (t : AM.At) : (found n was t).length ≤ 1 := by unfold found; split <;> simp
theorem may_tell1 {w : Wd} {n : Int} {a : AM.At} (h : May0 w) (hn : isNode n) (ht : Tell w.ms n a) : May0 (tell1 w n a) := by
 have h1 := (h.setT hn ht.t).addM (l := others w.ms (mk n 0 3 a.ba 0 a.va)) (fun m hm => by
  obtain ⟨y, hy, _, rfl⟩ := mem_others hm
  exact ⟨rfl, hn, member_node h.ms hy, by show (1 : Int) ≤ 3; omega, by show (3 : Int) ≤ 5; omega, ht.good, by show (0 : Int) ≤ 0; omega, ht.va.1⟩)
 exact h1
theorem errA_own {w : Wd} {n : Int} {a : AM.At} (ht : Tell w.ms n a) (hh : QM.has w.ms n = true) : AM.errA a a.ba n = 0 := AM.errA_mk ht.may ht.ph rfl (by rw [ht.ms]; exact hh)
theorem may_tell2 {w : Wd} {n : Int} {a : AM.At} (h : May0 w) (hn : isNode n) (ht : Tell w.ms n a) (hh : QM.has w.ms n = true) : May0 (tell2 w n a) := by
 obtain ⟨k1, k2, _⟩ := ht.acc (errA_own ht hh)
 have h1 := (h.setV n.toNat (v := ⟨a.ba, a.ba, a.va⟩) (VM.may_acc ht.good ht.va.1)).setT hn k1.t
 exact h1.addC (l := found n a.ph (AM.acc a a.ba n)) (fun c hc => by
  obtain ⟨rfl, _⟩ := mem_found hc
  exact ⟨hn, k1.va.1⟩)
theorem may_tells {w : Wd} {n : Int} {a : AM.At} (h : May0 w) (hn : isNode n) (ht : Tell w.ms n a) : May0 (tells w n a) := by
 unfold tells
 split
 ·rename_i k
  exact may_tell2 (may_tell1 h hn ht) hn ht k.1
 ·exact may_tell1 h hn ht
theorem prom_parts {a : AM.At} {b : Int} {p : AM.Pr} (he : AM.errP a b p = 0) : (AM.prom a b p).ba = a.ba ∧ (AM.prom a b p).ms = a.ms ∧ (AM.prom a b p).wi = a.wi ∧ (AM.prom a b p).ps = AM.addPs a.ps p ∧ (AM.prom a b p).ac = [] ∧ ((AM.prom a b p).ph = 1 ∨ (AM.prom a b p).ph = 2) := by
 rw [AM.prom_eq he]
 split
 ·exact ⟨rfl, rfl, rfl, rfl, rfl, .inr rfl⟩
 ·exact ⟨rfl, rfl, rfl, rfl, rfl, .inl rfl⟩
theorem prom_t {ms : List Int} {n : Int} {a : AM.At} {b : Int} {p : AM.Pr} (h : MayT ms n a) (he : AM.errP a b p = 0) : MayT ms n (AM.prom a b p) := by
 obtain ⟨g1, g2, g3, g4, g5⟩ := AM.errP_zero he
 obtain ⟨k1, k2, _⟩ := prom_parts he
 rcases h.2 with h0 | ⟨h1, h2⟩
 ·omega
 ·exact ⟨AM.may_prom he, .inr ⟨by rw [k1]; exact h1, by rw [k2]; exact h2⟩⟩
theorem may_takes {w : Wd} {n k : Int} {p : AM.Pr} (h : May0 w) (hn : isNode n) : May0 (takes w n k p) := by
 unfold takes
 split
 ·rename_i he
  have ht := prom_t (h.try_ hn) he
  split
  ·rename_i h2
   refine may_tells h hn ⟨ht.1, by omega, ?_, ?_⟩
   ·rcases ht.2 with h0 | h0
    ·omega
    ·exact h0.1
   ·rcases ht.2 with h0 | h0
    ·omega
    ·exact h0.2
  ·exact h.setT hn ht
 ·exact h
theorem may_start {ms : List Int} {n b : Int} {s : ByteArray} (hm : QM.may ms = true) (hb : BM.good b) (h8 : b % 8 = n) (hs : s.size ≤ 1024) : MayT ms n (AM.start ms b s) := by
 refine ⟨AM.may_mk (by show (1 : Int) ≤ 1; omega) (by show (1 : Int) ≤ 3; omega) ?_ ?_, .inr ⟨h8, rfl⟩⟩
 ·refine AM.okL_parts'.2 ⟨?_, rfl, rfl, rfl⟩
  unfold AM.okB
  simp only [Bool.and_eq_true, decide_eq_true_eq]
  exact ⟨hm, hb, hs⟩
 ·show if (1 : Int) = 1 then _ else _
  rw [if_pos rfl]
  exact ⟨AM.most_none, rfl, rfl⟩
theorem may_begin1 {w : Wd} {n : Int} {s : ByteArray} (h : May0 w) (hn : isNode n) (hr : BM.rnd (getV w n).p n ≤ 1048576) (hs : s.size ≤ 1024) : May0 (begin1 w n s) := by
 have hv := h.vote hn
 obtain ⟨g1, g2, g3⟩ := next_gt hv.1 hn
 have h1 := (h.setV n.toNat (v := ⟨nextB (getV w n).p n, (getV w n).b, (getV w n).v⟩) (VM.may_prep hv (g3 hr) (Int.le_of_lt g1))).setT hn (may_start h.ms (g3 hr) g2 hs)
 exact h1.addM (l := others w.ms (mk n 0 1 (nextB (getV w n).p n) 0 .empty)) (fun m hm => by
  obtain ⟨y, hy, _, rfl⟩ := mem_others hm
  exact ⟨rfl, hn, member_node h.ms hy, by show (1 : Int) ≤ 1; omega, by show (1 : Int) ≤ 5; omega, g3 hr, by show (0 : Int) ≤ 0; omega, by show ByteArray.size .empty ≤ 1024; decide⟩)
theorem may_comes {w : Wd} {m : Ml} (h : May0 w) (hm : MayM m) : May0 (comes w m) := by
 obtain ⟨_, hf, ht, _, _, hb, hp, hs⟩ := hm
 have hv := h.vote ht
 have hp0 : 0 ≤ (getV w m.t).p := by
  rcases hv.1 with e | e
  ·omega
  ·unfold BM.good at e; omega
 have href : May0 ⟨w.ms, w.vs, w.ts, w.ml ++ [mk m.t m.f 5 m.b (getV w m.t).p .empty], w.ch⟩ := h.addM (fun x hx => by
  simp at hx; subst hx
  exact ⟨rfl, ht, hf, by show (1 : Int) ≤ 5; omega, by show (5 : Int) ≤ 5; omega, hb, hp0, by show ByteArray.size .empty ≤ 1024; decide⟩)
 unfold comes
 split
 ·split
  ·rename_i hle
   have hb0 : 0 ≤ (getV w m.t).b ∧ (getV w m.t).v.size ≤ 1024 := by
    rcases hv.2 with ⟨e1, e2⟩ | ⟨_, e2, _, e4⟩
    ·exact ⟨by omega, by rw [e2]; decide⟩
    ·exact ⟨by unfold BM.good at e2; omega, e4⟩
   exact (h.setV m.t.toNat (v := ⟨m.b, (getV w m.t).b, (getV w m.t).v⟩) (VM.may_prep hv hb hle)).addM (fun x hx => by
    simp at hx; subst hx
    exact ⟨rfl, ht, hf, by show (1 : Int) ≤ 2; omega, by show (2 : Int) ≤ 5; omega, hb, hb0.1, hb0.2⟩)
  ·exact href
 ·split
  ·split
   ·exact (h.setV m.t.toNat (v := ⟨m.b, m.b, m.v⟩) (VM.may_acc hb hs)).addM (fun x hx => by
     simp at hx; subst hx
     exact ⟨rfl, ht, hf, by show (1 : Int) ≤ 4; omega, by show (4 : Int) ≤ 5; omega, hb, by show (0 : Int) ≤ 0; omega, by show ByteArray.size .empty ≤ 1024; decide⟩)
   ·exact href
  ·split
   ·exact may_takes h ht
   ·split
    ·split
     ·rename_i he
      obtain ⟨g1, g2, g3, g4⟩ := AM.errA_zero he
      have ht2 := h.try_ ht
      rcases ht2.2 with h0 | ⟨h1, h2⟩
      ·omega
      ·obtain ⟨k1, _⟩ := (⟨ht2.1, g2, h1, h2⟩ : Tell w.ms m.t (getT w m.t)).acc he
       exact (h.setT ht k1.t).addC (l := found m.t (getT w m.t).ph (AM.acc (getT w m.t) m.b m.f)) (fun c hc => by
        obtain ⟨rfl, _⟩ := mem_found hc
        exact ⟨ht, k1.va.1⟩)
     ·exact h
    ·exact h
theorem pre_zero {w : Wd} {m : Mv} (h : pre w m = 0) : (1 ≤ m.k ∧ m.k ≤ 5) ∧ (m.k = 1 ∨ m.k = 5 → isNode m.n) ∧ (m.k = 1 → m.v.size ≤ 1024 ∧ BM.rnd (getV w m.n).p m.n ≤ 1048576) ∧ (m.k = 2 ∨ m.k = 3 ∨ m.k = 4 → 0 ≤ m.at_ ∧ m.at_ < w.ml.length) := by
 unfold pre at h
 split at h
 ·cases h
 ·rename_i h1
  split at h
  ·rename_i h2
   split at h
   ·cases h
   ·rename_i h3
    split at h
    ·rename_i h5
     exact ⟨by omega, fun _ => by simpa using h3, fun e => by omega, fun e => by omega⟩
    ·split at h
     ·cases h
     ·split at h
      ·cases h
      ·exact ⟨by omega, fun _ => by simpa using h3, fun _ => ⟨by omega, by omega⟩, fun e => by omega⟩
  ·rename_i h2
   split at h
   ·cases h
   ·exact ⟨by omega, fun e => absurd e h2, fun e => absurd (.inl e) h2, fun _ => by omega⟩
theorem mail_at {w : Wd} {j : Int} (h0 : 0 ≤ j) (h1 : j < w.ml.length) : w.ml[j.toNat]? = some (mailAt w j) ∧ mailAt w j ∈ w.ml := by
 have hl : j.toNat < w.ml.length := by omega
 have e : w.ml[j.toNat]? = some (mailAt w j) := by
  unfold mailAt
  rw [List.getElem?_eq_getElem hl]; rfl
 exact ⟨e, List.mem_of_getElem? e⟩
theorem may_aft {w : Wd} {m : Mv} (h : May0 w) (hp : pre w m = 0) : May0 (aft w m) := by
 obtain ⟨h1, h2, h3, h4⟩ := pre_zero hp
 unfold aft
 split
 ·rename_i e
  have hn := h2 (.inl e)
  exact may_takes (may_begin1 h hn (h3 e).2 (h3 e).1) hn
 ·split
  ·rename_i e
   exact h.setT (h2 (.inr e)) ⟨by decide, .inl rfl⟩
  ·split
   ·rename_i e
    obtain ⟨k1, k2⟩ := h4 (.inl e)
    exact may_comes (h.cutM _) (h.mm _ (mail_at k1 k2).2)
   ·split
    ·rename_i e
     obtain ⟨k1, k2⟩ := h4 (.inr (.inl e))
     exact may_comes h (h.mm _ (mail_at k1 k2).2)
    ·exact h.cutM _
theorem errD_zero {w : Wd} {m : Mv} (h : errD w m = 0) : pre w m = 0 ∧ (aft w m).ml.length ≤ 1000 ∧ (aft w m).ch.length ≤ 1000 := by
 unfold errD at h
 split at h
 ·contradiction
 ·rename_i h1
  split at h
  ·cases h
  ·rename_i h2
   exact ⟨by simpa using h1, by omega, by omega⟩
theorem may_step {w : Wd} {m : Mv} (h : May w) (he : errD w m = 0) : May (aft w m) := by
 obtain ⟨h1, h2, h3⟩ := errD_zero he
 exact (may_aft h.zero h1).may h2 h3
theorem tells_len (w : Wd) (n : Int) (a : AM.At) : (tells w n a).ml.length ≤ w.ml.length + (others w.ms (mk n 0 3 a.ba 0 a.va)).length ∧ (tells w n a).ch.length ≤ w.ch.length + 1 ∧ w.ch.length ≤ (tells w n a).ch.length := by
 unfold tells
 split
 ·have := found_len n a.ph (AM.acc a a.ba n)
  unfold tell2 tell1
  simp only [List.length_append]
  omega
 ·unfold tell1
  simp only [List.length_append]
  omega
theorem takes_len (w : Wd) (n k : Int) (p : AM.Pr) : ∃ b s, (takes w n k p).ml.length ≤ w.ml.length + (others w.ms (mk n 0 3 b 0 s)).length ∧ (takes w n k p).ch.length ≤ w.ch.length + 1 ∧ w.ch.length ≤ (takes w n k p).ch.length := by
 unfold takes
 split
 ·split
  ·exact ⟨_, _, tells_len w n _⟩
  ·exact ⟨0, .empty, by simp only; omega, by simp only; omega, by simp only; omega⟩
 ·exact ⟨0, .empty, by omega, by omega, by omega⟩
theorem comes_ch (w : Wd) (m : Ml) : w.ch.length ≤ (comes w m).ch.length ∧ (comes w m).ch.length ≤ w.ch.length + 1 := by
 unfold comes
 split
 ·split <;> exact ⟨Nat.le_refl _, Nat.le_succ _⟩
 ·split
  ·split <;> exact ⟨Nat.le_refl _, Nat.le_succ _⟩
  ·split
   ·obtain ⟨_, _, _, h1, h2⟩ := takes_len w m.t m.b ⟨m.f, m.p, m.v⟩
    exact ⟨h2, h1⟩
   ·split
    ·split
     ·have := found_len m.t (getT w m.t).ph (AM.acc (getT w m.t) m.b m.f)
      simp only [List.length_append]
      omega
     ·exact ⟨Nat.le_refl _, Nat.le_succ _⟩
    ·exact ⟨Nat.le_refl _, Nat.le_succ _⟩
theorem aft_ch (w : Wd) (m : Mv) : w.ch.length ≤ (aft w m).ch.length ∧ (aft w m).ch.length ≤ w.ch.length + 1 := by
 unfold aft
 split
 ·obtain ⟨_, _, _, h1, h2⟩ := takes_len (begin1 w m.n m.v) m.n (nextB (getV w m.n).p m.n) ⟨m.n, (getV w m.n).b, (getV w m.n).v⟩
  exact ⟨h2, h1⟩
 ·split
  ·exact ⟨Nat.le_refl _, Nat.le_succ _⟩
  ·split
   ·exact comes_ch (gone w m.at_.toNat) _
   ·split
    ·exact comes_ch w _
    ·exact ⟨Nat.le_refl _, Nat.le_succ _⟩
end Go.Proofs.YtiiobafcgdelmaaGreat.DC
namespace Go.Proofs.YtiiobafcgdelmaaGreat
open Go.RowKit
theorem isNode_yes (n : Int) (w : World) (h0 : 0 ≤ n) (h1 : n < 6) : Calls Tryz.prog 95 #[.int .i64 n] w fun e w' => e = .returned (.bool true) ∧ w = w' := by
 go_enter Tryz.func95, Tryz.ntmps95
 go_wp2
 go_ret
 exact ⟨rfl, rfl⟩
theorem isNode_no (n : Int) (w : World) (h : n < 0 ∨ 6 ≤ n) : Calls Tryz.prog 95 #[.int .i64 n] w fun e w' => e = .returned (.bool false) ∧ w = w' := by
 rcases h with h | h
 all_goals
  go_enter Tryz.func95, Tryz.ntmps95
  go_wp2
  go_ret
  exact ⟨by simp; try omega, rfl⟩
theorem mayBe_yes (r n : Int) (w : World) (h : BM.ok r n) : Calls Tryz.prog 105 #[.int .i64 r, .int .i64 n] w fun e w' => e = .returned (.bool true) ∧ w = w' := by
 obtain ⟨h0, h1, h2, h3⟩ := h
 go_enter Tryz.func105, Tryz.ntmps105
 go_wp2_with fail
 refine (isNode_yes _ _ h2 h3).mono ?_
 rintro e w1 ⟨rfl, rfl⟩
 go_wp2
 go_ret
 exact ⟨rfl, rfl⟩
theorem mayBe_no (r n : Int) (w : World) (h : ¬ BM.ok r n) : Calls Tryz.prog 105 #[.int .i64 r, .int .i64 n] w fun e w' => e = .returned (.bool false) ∧ w = w' := by
 have h' : r < 1 ∨ (1 ≤ r ∧ 1048576 < r) ∨ (1 ≤ r ∧ r ≤ 1048576 ∧ (n < 0 ∨ 6 ≤ n)) := by unfold BM.ok at h; omega
 clear h
 rcases h' with h | ⟨h0, h⟩ | ⟨h0, h1, h⟩
 ·go_enter Tryz.func105, Tryz.ntmps105
  go_wp2_with fail
  go_ret
  exact ⟨by simp; try omega, rfl⟩
 ·go_enter Tryz.func105, Tryz.ntmps105
  go_wp2_with fail
  go_ret
  exact ⟨by simp; try omega, rfl⟩
 ·have H := h! h; clear h
  go_enter Tryz.func105, Tryz.ntmps105
  go_wp2_with fail
  refine (isNode_no _ _ H.out).mono ?_
  rintro e w1 ⟨rfl, rfl⟩
  go_wp2
  go_ret
  exact ⟨rfl, rfl⟩
theorem part_nat (b : Int) (w : World) (h : 0 ≤ b) (h2 : b ≤ 9223372036854775807) : Calls Tryz.prog 96 #[.int .i64 b] w fun e w' => e = .returned (.tuple #[.int .i64 (b / 8), .int .i64 (b % 8)]) ∧ w = w' := by
 go_enter Tryz.func96, Tryz.ntmps96
 go_wp2
 go_ret2
 exact ⟨rfl, rfl⟩
def PartNeg (w : World) (e : Ending) (w' : World) : Prop := ∃ x y : Int, x < 1 ∧ e = .returned (.tuple #[.int .i64 x, .int .i64 y]) ∧ w = w'
theorem part_neg (b : Int) (w : World) (h : b < 0) (h2 : -9223372036854775808 ≤ b) : Calls Tryz.prog 96 #[.int .i64 b] w (PartNeg w) := by
 have ht : b.tdiv 8 < 1 := by
  have e : b = -(-b) := by omega
  rw [e, Int.neg_tdiv, Int.tdiv_eq_ediv_of_nonneg (by omega)]
  omega
 go_enter Tryz.func96, Tryz.ntmps96
 go_wp2
 go_ret2
 exact ⟨_, _, ht, rfl, rfl⟩
theorem of_any {b r n y : Int} (h : BM.OfIs b r n y) (h1 : -9223372036854775808 ≤ b) (h2 : b ≤ 9223372036854775807) (w : World) : Calls Tryz.prog 92 #[.int .i64 b] w fun e w' => e = .returned (.tuple #[.int .i64 r, .int .i64 n, .int .i64 y]) ∧ w = w' := by
 rcases h with ⟨h, rfl, rfl, rfl⟩ | ⟨h, rfl, rfl, rfl⟩
 ·have hb : 0 ≤ b := by have := h.1; omega
  have hok := (BM.good_iff b hb).1 h
  clear h
  obtain ⟨q, hq⟩ : ∃ q, q = b / 8 := ⟨_, rfl⟩
  obtain ⟨p, hp⟩ : ∃ p, p = b % 8 := ⟨_, rfl⟩
  have hpart := part_nat b w hb h2
  rw [← hq, ← hp] at hpart hok ⊢
  clear hq hp
  have HP := h! hpart; clear hpart
  have H := h! hok; clear hok
  go_enter Tryz.func92, Tryz.ntmps92
  go_wp2_with fail
  refine (HP.out).mono ?_
  rintro e w1 ⟨rfl, rfl⟩
  go_wp2_with fail
  refine (mayBe_yes _ _ _ H.out).mono ?_
  rintro e w1 ⟨rfl, rfl⟩
  go_wp2
  go_ret3
  exact ⟨rfl, rfl⟩
 ·rcases (show 0 ≤ b ∨ b < 0 by omega) with hb | hb
  ·have hok := fun g => h ((BM.good_iff b hb).2 g)
   clear h
   obtain ⟨q, hq⟩ : ∃ q, q = b / 8 := ⟨_, rfl⟩
   obtain ⟨p, hp⟩ : ∃ p, p = b % 8 := ⟨_, rfl⟩
   have hpart := part_nat b w hb h2
   rw [← hq, ← hp] at hpart hok
   clear hq hp
   have HP := h! hpart; clear hpart
   have H := h! hok; clear hok
   go_enter Tryz.func92, Tryz.ntmps92
   go_wp2_with fail
   refine (HP.out).mono ?_
   rintro e w1 ⟨rfl, rfl⟩
   go_wp2_with fail
   refine (mayBe_no _ _ _ H.out).mono ?_
   rintro e w1 ⟨rfl, rfl⟩
   go_wp2
   go_ret3
   exact ⟨rfl, rfl⟩
  ·clear h
   go_enter Tryz.func92, Tryz.ntmps92
   go_wp2_with fail
   refine (part_neg _ _ hb h1).mono ?_
   rintro e w1 ⟨x, y, hx, rfl, rfl⟩
   have hok : ¬ BM.ok x y := fun g => by have := g.1; omega
   have H := h! hok; clear hok hx
   go_wp2_with fail
   refine (mayBe_no _ _ _ H.out).mono ?_
   rintro e w1 ⟨rfl, rfl⟩
   go_wp2
   go_ret3
   exact ⟨rfl, rfl⟩
theorem check_any {b r n y : Int} (h : BM.OfIs b r n y) (h1 : -9223372036854775808 ≤ b) (h2 : b ≤ 9223372036854775807) (w : World) : Calls Tryz.prog 93 #[.int .i64 b] w fun e w' => e = .returned (.int .i64 y) ∧ w = w' := by
 have H := h! h; clear h
 go_enter Tryz.func93, Tryz.ntmps93
 go_wp2_with fail
 refine (of_any H.out h1 h2 _).mono ?_
 rintro e w1 ⟨rfl, rfl⟩
 go_wp2
 go_ret
 exact ⟨rfl, rfl⟩
theorem u8_or : ∀ x y : Fin 64, bits .or .u8 ((x.val : Nat) : Int) ((y.val : Nat) : Int) = ((x.val ||| y.val : Nat) : Int) := by decide +kernel
theorem u8_and : ∀ x y : Fin 64, bits .and .u8 ((x.val : Nat) : Int) ((y.val : Nat) : Int) = ((x.val &&& y.val : Nat) : Int) := by decide +kernel
theorem u8_not : ∀ x y : Fin 64, bits .andNot .u8 ((x.val : Nat) : Int) ((y.val : Nat) : Int) = ((x.val &&& (63 ^^^ y.val) : Nat) : Int) := by decide +kernel
theorem u8_add (s : Nat) (z : Int) (hs : s < 64) (h0 : 0 ≤ z) (h1 : z < 6) : bits .or .u8 (s : Int) ((2 : Int) ^ z.toNat % 256) = ((s ||| 2 ^ z.toNat : Nat) : Int) := by
 have h6 : z.toNat < 6 := by omega
 have hp : 2 ^ z.toNat < 64 := QM.two_lt h6
 rw [show ((2 : Int) ^ z.toNat) = ((2 ^ z.toNat : Nat) : Int) by push_cast; rfl]
 generalize 2 ^ z.toNat = q at hp ⊢
 have e : ((q : Nat) : Int) % 256 = (q : Int) := by omega
 rw [e]
 exact u8_or ⟨s, hs⟩ ⟨q, hp⟩
theorem u8_nots (x y : Nat) (hx : x < 64) (hy : y < 64) : bits .andNot .u8 (x : Int) (y : Int) = ((x &&& (63 ^^^ y) : Nat) : Int) := u8_not ⟨x, hx⟩ ⟨y, hy⟩
theorem u8_ands (x y : Nat) (hx : x < 64) (hy : y < 64) : bits .and .u8 (x : Int) (y : Int) = ((x &&& y : Nat) : Int) := u8_and ⟨x, hx⟩ ⟨y, hy⟩
def IdxYes (w : World) (e : Ending) (w' : World) : Prop := ∃ y : Int, 0 ≤ y ∧ e = .returned (.int .i64 y) ∧ w = w'
theorem ret_int {k : IntKind} {a b : Int} (h : a = b) : Ending.returned (.int k a) = .returned (.int k b) := by rw [h]
theorem ret_eq {a b : Bool} (h : a = b) : Ending.returned (.bool a) = .returned (.bool b) := by rw [h]
theorem ret_u8 {a b : Nat} (h : a = b) : Ending.returned (.int .u8 (a : Int)) = .returned (.int .u8 (b : Int)) := by rw [h]
theorem val_u8 {a b : Int} (h : a = b) : Value.int .u8 a = .int .u8 b := by rw [h]
set_option maxHeartbeats 1000000 in
theorem rise_any (A : Option Addr) (n c : Nat) (zs : List Int) (w : World) (hr : Rd w A n (ic zs)) (hm : n ≤ 9223372036854775807) :
  Calls Tryz.prog 64 #[.slice A n c] w fun e w' => e = .returned (.bool (QM.rise (-1) zs)) ∧ w = w' := by
 obtain ⟨r, hrr⟩ : ∃ r, r = QM.rise (-1) zs := ⟨_, rfl⟩
 rw [← hrr]
 have hl : zs.length = n := by have := hr.1; rwa [ic_length] at this
 have HL := h! hl; clear hl
 have hst : QM.rise (-1) (zs.drop 0) = r := by rw [hrr]; rfl
 clear hrr
 have HS := h! hst; clear hst
 go_enter Tryz.func64, Tryz.ntmps64
 go_wp2
 go_loop [3, 8] (fun a i => ∃ (k : Nat) (p : Int), k ≤ n ∧ i = .int .i64 k ∧ a = .int .i64 p ∧ -1 ≤ p ∧ Hid (QM.rise p (zs.drop k) = r)) (fun _ i => n - (intOf i).toNat)
 case atStart => exact ⟨0, -1, by omega, rfl, rfl, by omega, HS⟩
 case round =>
  clear HS
  obtain ⟨k, p, hk, rfl, rfl, hp, HR⟩ := hrel
  by_cases hlt : k < n
  ·have hkz : k < zs.length := by have := HL.out; omega
   obtain ⟨ad, u, rfl, _, hu, hcell⟩ := hr.at_ hlt
   rw [ic_get zs k hkz] at hu
   injection hu with hu
   subst hu
   have hd := HR.out
   rw [List.drop_eq_getElem_cons hkz] at hd
   obtain ⟨z, hz⟩ : ∃ z, z = zs[k] := ⟨_, rfl⟩
   rw [← hz] at hcell hd
   clear hz HR
   simp only [QM.rise] at hd
   by_cases h1 : p < z
   ·by_cases h2 : z < 6
    ·have hd' : QM.rise z (zs.drop (k + 1)) = r := by rw [← hd]; simp [h1, h2]
     clear hd
     have HD := h! hd'; clear hd'
     go_wp2
     go_round
     case rel => exact ⟨k + 1, z, by omega, by go_num, rfl, by omega, HD⟩
     case measure => simp [intOf]; omega
    ·have hd' : false = r := by rw [← hd]; simp [h2]
     clear hd
     have HD := h! hd'; clear hd'
     go_wp2
     go_ret
     exact ⟨ret_eq HD.out, rfl⟩
   ·have hd' : false = r := by rw [← hd]; simp [h1]
    clear hd
    have HD := h! hd'; clear hd'
    go_wp2
    go_ret
    exact ⟨ret_eq HD.out, rfl⟩
  ·have hd : true = r := by have := HR.out; rw [List.drop_of_length_le (by have := HL.out; omega)] at this; simpa [QM.rise] using this
   have HD := h! hd; clear hd
   go_wp2
   go_ret
   exact ⟨ret_eq HD.out, rfl⟩
set_option maxHeartbeats 1000000 in
theorem set_any (A : Option Addr) (n c : Nat) (zs : List Int) (w : World) (hr : Rd w A n (ic zs)) (hm : n ≤ 9223372036854775807) :
  Calls Tryz.prog 128 #[.slice A n c] w fun e w' => e = .returned (.int .u8 (QM.set zs : Int)) ∧ w = w' := by
 have hl : zs.length = n := by have := hr.1; rwa [ic_length] at this
 have HL := h! hl; clear hl
 go_enter Tryz.func128, Tryz.ntmps128
 go_wp2
 go_loop [2, 7] (fun a i => ∃ (k s : Nat), k ≤ n ∧ i = .int .i64 k ∧ a = .int .u8 s ∧ s < 64 ∧ Hid (s = QM.setF 0 (zs.take k))) (fun _ i => n - (intOf i).toNat)
 case atStart => exact ⟨0, 0, by omega, rfl, rfl, by omega, h! rfl⟩
 case round =>
  obtain ⟨k, s, hk, rfl, rfl, hs, HR⟩ := hrel
  by_cases hlt : k < n
  ·have hkz : k < zs.length := by have := HL.out; omega
   obtain ⟨ad, u, rfl, _, hu, hcell⟩ := hr.at_ hlt
   rw [ic_get zs k hkz] at hu
   injection hu with hu
   subst hu
   have hd : QM.add s zs[k] = QM.setF 0 (zs.take (k + 1)) := by
    rw [List.take_succ_eq_append_getElem hkz, QM.setF_snoc, ← HR.out]
   obtain ⟨z, hz⟩ : ∃ z, z = zs[k] := ⟨_, rfl⟩
   rw [← hz] at hcell hd
   clear hz HR
   by_cases h1 : 0 ≤ z ∧ z < 6
   ·have hd' : s ||| 2 ^ z.toNat = QM.setF 0 (zs.take (k + 1)) := by rw [← hd]; unfold QM.add; rw [if_pos h1]
    clear hd
    have HD := h! hd'; clear hd'
    obtain ⟨h1, h2⟩ := h1
    go_wp2
    go_round
    case rel => exact ⟨k + 1, s ||| 2 ^ z.toNat, by omega, by go_num, val_u8 (u8_add s z hs h1 h2), Nat.or_lt_two_pow (n := 6) hs (QM.two_lt (by omega)), HD⟩
    case measure => simp [intOf]; omega
   ·have hd' : s = QM.setF 0 (zs.take (k + 1)) := by rw [← hd]; unfold QM.add; rw [if_neg h1]
    clear hd
    have HD := h! hd'; clear hd'
    rcases (show z < 0 ∨ (0 ≤ z ∧ 6 ≤ z) by omega) with h2 | ⟨h2, h3⟩
    all_goals
     clear h1
     go_wp2
     go_round
     case rel => exact ⟨k + 1, s, by omega, by go_num, rfl, hs, HD⟩
     case measure => simp [intOf]; omega
  ·obtain rfl : k = n := by omega
   have hd : s = QM.set zs := by have := HR.out; rw [List.take_of_length_le (by have := HL.out; omega)] at this; exact this
   have HD := h! hd; clear hd
   go_wp2
   go_ret
   exact ⟨ret_u8 HD.out, rfl⟩
set_option maxHeartbeats 1000000 in
theorem index_yes (A : Option Addr) (n c : Nat) (zs : List Int) (x : Int) (w : World) (hr : Rd w A n (ic zs)) (hm : n ≤ 9223372036854775807) (hx : QM.has zs x = true) :
  Calls Tryz.prog 106 #[.slice A n c, .int .i64 x] w (IdxYes w) := by
 have hl : zs.length = n := by have := hr.1; rwa [ic_length] at this
 have hst : QM.has (zs.drop 0) x = true := hx
 have HL := h! hl; clear hl
 have HS := h! hst; clear hst hx
 go_enter Tryz.func106, Tryz.ntmps106
 go_wp2
 go_loop [8] (fun i => ∃ k : Nat, k ≤ n ∧ i = .int .i64 k ∧ Hid (QM.has (zs.drop k) x = true)) (fun i => n - (intOf i).toNat)
 case atStart => exact ⟨0, by omega, rfl, HS⟩
 case round =>
  clear HS
  obtain ⟨k, hk, rfl, HR⟩ := hrel
  by_cases hlt : k < n
  ·have hkz : k < zs.length := by have := HL.out; omega
   obtain ⟨ad, u, rfl, _, hu, hcell⟩ := hr.at_ hlt
   rw [ic_get zs k hkz] at hu
   injection hu with hu
   subst hu
   have hd := HR.out
   rw [List.drop_eq_getElem_cons hkz] at hd
   obtain ⟨z, hz⟩ : ∃ z, z = zs[k] := ⟨_, rfl⟩
   rw [← hz] at hcell hd
   clear hz HR
   by_cases h1 : x = z
   ·subst h1
    clear hd
    go_wp2
    go_ret
    exact ⟨_, by omega, rfl, rfl⟩
   ·have hd' : QM.has (zs.drop (k + 1)) x = true := by
     unfold QM.has at hd ⊢
     simpa [h1] using hd
    clear hd
    have HD := h! hd'; clear hd'
    have h2 : (x == z) = false := by simpa using h1
    clear h1
    go_wp2
    go_round
    case rel => exact ⟨k + 1, by omega, by go_num, HD⟩
    case measure => simp [intOf]; omega
  ·have := HR.out
   rw [List.drop_of_length_le (by have := HL.out; omega)] at this
   simp [QM.has] at this
set_option maxHeartbeats 1000000 in
theorem index_no (A : Option Addr) (n c : Nat) (zs : List Int) (x : Int) (w : World) (hr : Rd w A n (ic zs)) (hm : n ≤ 9223372036854775807) (hx : QM.has zs x = false) :
  Calls Tryz.prog 106 #[.slice A n c, .int .i64 x] w fun e w' => e = .returned (.int .i64 (-1)) ∧ w = w' := by
 have hl : zs.length = n := by have := hr.1; rwa [ic_length] at this
 have HL := h! hl; clear hl
 have HS := h! hx; clear hx
 go_enter Tryz.func106, Tryz.ntmps106
 go_wp2
 go_loop [8] (fun i => ∃ k : Nat, k ≤ n ∧ i = .int .i64 k) (fun i => n - (intOf i).toNat)
 case atStart => exact ⟨0, by omega, rfl⟩
 case round =>
  obtain ⟨k, hk, rfl⟩ := hrel
  by_cases hlt : k < n
  ·have hkz : k < zs.length := by have := HL.out; omega
   obtain ⟨ad, u, rfl, _, hu, hcell⟩ := hr.at_ hlt
   rw [ic_get zs k hkz] at hu
   injection hu with hu
   subst hu
   have h1 : ¬ x = zs[k] := by
    intro h
    have := HS.out
    unfold QM.has at this
    rw [h] at this
    simp at this
   obtain ⟨z, hz⟩ : ∃ z, z = zs[k] := ⟨_, rfl⟩
   rw [← hz] at hcell h1
   clear hz
   have h2 : (x == z) = false := by simpa using h1
   clear h1
   go_wp2
   go_round
   case rel => exact ⟨k + 1, by omega, by go_num⟩
   case measure => simp [intOf]; omega
  ·go_wp2
   go_ret
   exact ⟨rfl, rfl⟩
theorem contains_any (A : Option Addr) (n c : Nat) (zs : List Int) (x : Int) (w : World) (hr : Rd w A n (ic zs)) (hm : n ≤ 9223372036854775807) :
  Calls Tryz.prog 100 #[.slice A n c, .int .i64 x] w fun e w' => e = .returned (.bool (QM.has zs x)) ∧ w = w' := by
 rcases hx : QM.has zs x with _ | _
 ·have HX := h! hx; clear hx
  go_enter Tryz.func100, Tryz.ntmps100
  go_wp2_with fail
  refine (index_no A n c zs x _ hr hm HX.out).mono ?_
  rintro e w1 ⟨rfl, rfl⟩
  go_wp2
  go_ret
  exact ⟨rfl, rfl⟩
 ·have HX := h! hx; clear hx
  go_enter Tryz.func100, Tryz.ntmps100
  go_wp2_with fail
  refine (index_yes A n c zs x _ hr hm HX.out).mono ?_
  rintro e w1 ⟨y, hy, rfl, rfl⟩
  go_wp2
  go_ret
  exact ⟨rfl, rfl⟩
theorem has_any (A : Option Addr) (n c : Nat) (zs : List Int) (x : Int) (w : World) (hr : Rd w A n (ic zs)) (hm : n ≤ 9223372036854775807) :
  Calls Tryz.prog 79 #[.slice A n c, .int .i64 x] w fun e w' => e = .returned (.bool (QM.has zs x)) ∧ w = w' := by
 obtain ⟨b, hb⟩ : ∃ b, b = QM.has zs x := ⟨_, rfl⟩
 have h := contains_any A n c zs x w hr hm
 rw [← hb] at h ⊢
 clear hb
 have H := h! h; clear h
 go_enter Tryz.func79, Tryz.ntmps79
 go_wp2_with fail
 refine H.out.mono ?_
 rintro e w1 ⟨rfl, rfl⟩
 go_wp2
 go_ret
 exact ⟨rfl, rfl⟩
theorem ones_int (x : Int) (w : World) (h0 : 0 ≤ x) (h1 : x ≤ 255) : Calls Tryz.prog 131 #[.int .u8 x] w fun e w' => e = .returned (.int .i64 (Lib.onesCount x.toNat)) ∧ w = w' := by
 go_enter Tryz.func131, Tryz.ntmps131
 go_wp2
 go_ret
 refine ⟨ret_int ?_, rfl⟩
 have e := Lib.pop8_eq ⟨x.toNat, by omega⟩
 have l := Lib.onesCount_le8 ⟨x.toNat, by omega⟩
 simp only [Int.toNat_of_nonneg h0] at e
 rw [e]
 simp only at l
 exact IntWalk.wrap64_in _ ⟨by omega, by omega⟩
theorem ones_any (x : Nat) (w : World) (hx : x < 64) : Calls Tryz.prog 131 #[.int .u8 (x : Int)] w fun e w' => e = .returned (.int .i64 (Lib.onesCount x : Int)) ∧ w = w' := ones_int (x : Int) w (by omega) (by omega)
theorem qcheck_any (A : Option Addr) (n c : Nat) (zs : List Int) (y : Int) (w : World) (hr : Rd w A n (ic zs)) (hm : n ≤ 9223372036854775807) (hy : QM.ChkIs zs y) :
  Calls Tryz.prog 36 #[.slice A n c] w fun e w' => e = .returned (.int .i64 y) ∧ w = w' := by
 have hl : zs.length = n := by have := hr.1; rwa [ic_length] at this
 have h := rise_any A n c zs w hr hm
 rcases hy with ⟨h6, rfl⟩ | ⟨h6, hf, rfl⟩ | ⟨ht, rfl⟩
 ·rw [hl] at h6
  clear h hl
  go_enter Tryz.func36, Tryz.ntmps36
  go_wp2
  go_ret
  exact ⟨rfl, rfl⟩
 ·rw [hl] at h6
  by_cases h0 : n = 0
  ·subst h0
   clear h hl hf h6
   go_enter Tryz.func36, Tryz.ntmps36
   go_wp2
   go_ret
   exact ⟨rfl, rfl⟩
  ·have hz : QM.rise (-1) zs = false := by
    unfold QM.may at hf
    rw [hl] at hf
    have h1 : decide (1 ≤ n) = true := by simp; omega
    have h2 : decide (n ≤ 6) = true := by simp; omega
    rw [h1, h2] at hf
    simpa using hf
   rw [hz] at h
   have H := h! h
   clear h hl hf hz
   have h1 : 0 < n := by omega
   clear h0
   go_enter Tryz.func36, Tryz.ntmps36
   go_wp2_with fail
   refine H.out.mono ?_
   rintro e w1 ⟨rfl, rfl⟩
   go_wp2
   go_ret
   exact ⟨rfl, rfl⟩
 ·obtain ⟨h1, h2, h3⟩ := QM.may_len ht
  rw [hl] at h1 h2
  rw [h3] at h
  have H := h! h
  clear h hl ht h3
  go_enter Tryz.func36, Tryz.ntmps36
  go_wp2_with fail
  refine H.out.mono ?_
  rintro e w1 ⟨rfl, rfl⟩
  go_wp2
  go_ret
  exact ⟨rfl, rfl⟩
end Go.Proofs.YtiiobafcgdelmaaGreat
