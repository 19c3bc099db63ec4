/-
  Once something was found chosen, whoever begins again and gets its majority tells that value; how mail grows. No program.
  The numbers of mail that moves send are small; what may be, fits. No program.
-/
import Derived.Test.YtiiobafcgdelmaaK36
import Derived.Test.YtiiobafcgdelmaaK06
namespace Go.Proofs.Ytiiobafcgdelmaa.DC
set_option linter.unusedVariables false
set_option linter.unusedSimpArgs false

-- how many the others are
theorem insI_length (l : List Int) (x : Int) : (AM.insI l x).length = l.length + 1 := by
  unfold AM.insI
  rw [List.length_append, List.length_cons]
  have := congrArg List.length (List.takeWhile_append_dropWhile (p := fun y => decide (y < x)) (l := l))
  rw [List.length_append] at this
  omega
theorem others_len5 {ms : List Int} {m : Ml} (h : QM.may ms = true) (hn : isNode m.f) : (others ms m).length ≤ 5 := by
  have hr := (QM.may_len h).2.2
  obtain ⟨h1, h2⟩ := AM.rise_iff.1 hr
  have hs : AM.Srt (fun y : Int => y) (ms.filter (fun x => decide (x ≠ m.f))) := List.Pairwise.sublist List.filter_sublist h1
  have hi : AM.Srt (fun y : Int => y) (AM.insI (ms.filter (fun x => decide (x ≠ m.f))) m.f) := by
    rw [AM.insI_K]
    exact AM.srt_insK _ hs (fun q hq e => by
      have := (List.mem_filter.1 hq).2
      simp at this
      exact this e)
  have hrise : QM.rise (-1) (AM.insI (ms.filter (fun x => decide (x ≠ m.f))) m.f) = true := AM.rise_iff.2 ⟨hi, fun x hx => by
    rw [AM.insI_K] at hx
    rcases (AM.mem_insK _ _ _ _).1 hx with rfl | hx
    · unfold isNode at hn; omega
    · exact h2 x (List.mem_filter.1 hx).1⟩
  have := AM.rise_le hrise
  rw [insI_length] at this
  unfold others
  rw [List.length_map]
  omega
theorem others_one {ms : List Int} {m : Ml} (h : ms.length ≤ 1) (hm : m.f ∈ ms) : (others ms m).length = 0 := by
  match ms, h, hm with
  | [], _, hm => cases hm
  | [x], _, hm =>
    simp at hm
    subst hm
    unfold others
    simp
theorem cnt_one (ms : List Int) (x : Int) (hr : ms.Nodup) : QM.cnt ms [x] ≤ 1 := by
  unfold QM.cnt
  have hsub : (ms.filter (QM.has [x])).Nodup := List.Nodup.sublist List.filter_sublist hr
  have hall : ∀ y ∈ ms.filter (QM.has [x]), y = x := fun y hy => by
    have := (List.mem_filter.1 hy).2
    have := AM.has_iff.1 this
    simpa using this
  match hl : ms.filter (QM.has [x]), hsub, hall with
  | [], _, _ => simp
  | [a], _, _ => simp
  | a :: b :: r, hs, hq =>
    have h1 := hq a (by simp)
    have h2 := hq b (by simp)
    simp at hs
    exact absurd (h1.trans h2.symm) hs.1.1
/-- the mail of a move that is not refused -/
theorem takes_ml {w : Wd} {n k : Int} {p : AM.Pr} (h : May0 w) (hn : isNode n) : (takes w n k p).ml.length ≤ w.ml.length + 5 := by
  obtain ⟨b, s, h1, _⟩ := takes_len w n k p
  have := others_len5 (m := mk n 0 3 b 0 s) h.ms hn
  omega
theorem comes_ml {w : Wd} {m : Ml} (h : May0 w) (ht : isNode m.t) : (comes w m).ml.length ≤ w.ml.length + 5 := by
  unfold comes
  split
  · split <;> (simp only [List.length_append, List.length_cons, List.length_nil]; omega)
  · split
    · split <;> (simp only [List.length_append, List.length_cons, List.length_nil]; omega)
    · split
      · exact takes_ml h ht
      · split
        · split
          · simp only; omega
          · omega
        · omega
theorem begin_get {w : Wd} {n : Int} {s : ByteArray} (h : May0 w) (hn : isNode n) : getT (begin1 w n s) n = AM.start w.ms (nextB (getV w n).p n) s := by
  unfold getT begin1
  simp only
  rw [List.getElem?_set_self (by rw [h.tl]; exact (node_nat hn).2)]
  rfl
theorem begins_ml {w : Wd} {n : Int} {s : ByteArray} (h : May0 w) (hn : isNode n) (hr : BM.rnd (getV w n).p n ≤ 1048576) (hs : s.size ≤ 1024) : (begins w n s).ml.length ≤ w.ml.length + 5 := by
  have hb := may_begin1 h hn hr hs
  have h5 := others_len5 (m := mk n 0 1 (nextB (getV w n).p n) 0 .empty) h.ms hn
  have hl : (begin1 w n s).ml.length = w.ml.length + (others w.ms (mk n 0 1 (nextB (getV w n).p n) 0 .empty)).length := by unfold begin1; simp
  unfold begins takes
  split
  · rename_i he
    obtain ⟨e1, e2, e3, e4, e5⟩ := AM.errP_zero he
    split
    · rename_i h2
      have hq := prom_parts he
      have ht := prom_t (hb.try_ hn) he
      obtain ⟨_, _, _, k⟩ := AM.may_pos ht.1 (by omega)
      rw [if_neg (by omega)] at k
      have hm := k.1
      rw [hq.2.2.2.1, hq.2.1, begin_get h hn] at hm
      have hlen : w.ms.length ≤ 1 := by
        have hm' : AM.most w.ms [n] = true := hm
        unfold AM.most at hm'
        have := cnt_one w.ms n (QM.rise_nodup (QM.may_len h.ms).2.2)
        simp only [decide_eq_true_eq] at hm'
        omega
      have hin : n ∈ w.ms := by
        rw [begin_get h hn] at e4
        exact AM.has_iff.1 e4
      obtain ⟨t1, _, _⟩ := tells_len (begin1 w n s) n (AM.prom (getT (begin1 w n s) n) (nextB (getV w n).p n) ⟨n, (getV w n).b, (getV w n).v⟩)
      have h0 := others_one (ms := w.ms) (m := mk n 0 3 (AM.prom (getT (begin1 w n s) n) (nextB (getV w n).p n) ⟨n, (getV w n).b, (getV w n).v⟩).ba 0 (AM.prom (getT (begin1 w n s) n) (nextB (getV w n).p n) ⟨n, (getV w n).b, (getV w n).v⟩).va) hlen hin
      have hms : (begin1 w n s).ms = w.ms := rfl
      rw [hms] at t1
      omega
    · simp only
      omega
  · omega
theorem aft_ml {w : Wd} {m : Mv} (h : May0 w) (hp : pre w m = 0) : (aft w m).ml.length ≤ w.ml.length + 5 := by
  obtain ⟨h1, h2, h3, h4⟩ := pre_zero hp
  unfold aft
  split
  · rename_i e
    exact begins_ml h (h2 (.inl e)) (h3 e).2 (h3 e).1
  · split
    · simp only; omega
    · split
      · rename_i e
        obtain ⟨k1, k2⟩ := h4 (.inl e)
        have := comes_ml (h.cutM m.at_.toNat) (h.mm _ (mail_at k1 k2).2).2.2.1
        have h5 : (gone w m.at_.toNat).ml.length ≤ w.ml.length := by unfold gone; simp only; exact List.length_eraseIdx_le ..
        omega
      · split
        · rename_i e
          obtain ⟨k1, k2⟩ := h4 (.inr (.inl e))
          exact comes_ml h (h.mm _ (mail_at k1 k2).2).2.2.1
        · have h5 : (gone w m.at_.toNat).ml.length ≤ w.ml.length := by unfold gone; simp only; exact List.length_eraseIdx_le ..
          omega
theorem run_ml : ∀ (l : List Mv) (w : Wd), May w → (runF w l).ml.length ≤ w.ml.length + 5 * l.length
  | [], w, h => by unfold runF; simp
  | m :: l, w, h => by
    unfold runF
    rw [List.length_cons]
    split
    · rename_i he
      have h1 := aft_ml h.zero (errD_zero he).1
      have := run_ml l _ (may_step h he)
      omega
    · have := run_ml l w h
      omega

-- what mail and attempts a call leaves
theorem takes_mail {w : Wd} {n k : Int} {p : AM.Pr} (h : May0 w) (hn : isNode n) : ∃ l, (takes w n k p).ml = w.ml ++ l ∧ l.length ≤ 5 ∧ ∀ m ∈ l, m.k = 3 := by
  have h5 : ∀ a : AM.At, (others w.ms (mk n 0 3 a.ba 0 a.va)).length ≤ 5 ∧ ∀ m ∈ others w.ms (mk n 0 3 a.ba 0 a.va), m.k = 3 := fun a =>
    ⟨others_len5 (m := mk n 0 3 a.ba 0 a.va) h.ms hn, fun m hm => by obtain ⟨y, _, _, rfl⟩ := mem_others hm; rfl⟩
  unfold takes
  split
  · split
    · unfold tells
      split
      · exact ⟨_, rfl, h5 _⟩
      · exact ⟨_, rfl, h5 _⟩
    · exact ⟨[], by simp, by simp, fun m hm => by cases hm⟩
  · exact ⟨[], by simp, by simp, fun m hm => by cases hm⟩
theorem takes_try {w : Wd} {n k : Int} {p : AM.Pr} (h : May0 w) (hn : isNode n) : (takes w n k p).ts = w.ts ∨ ∃ t, (takes w n k p).ts = w.ts.set n.toNat t ∧ t.ba = (getT w n).ba ∧ t.ph ≠ 0 := by
  unfold takes
  split
  · rename_i he
    have hq := prom_parts he
    have ht := prom_t (h.try_ hn) he
    split
    · rename_i h2
      unfold tells
      split
      · rename_i hc
        have hT : Tell w.ms n (AM.prom (getT w n) k p) := ⟨ht.1, by omega, by rcases ht.2 with h0 | h0 <;> omega, by rcases ht.2 with h0 | h0; (· omega); (· exact h0.2)⟩
        obtain ⟨k1, _, k3, _⟩ := hT.acc (errA_own hT hc.1)
        refine .inr ⟨AM.acc (AM.prom (getT w n) k p) (AM.prom (getT w n) k p).ba n, ?_, k3.trans hq.1, ?_⟩
        · show (w.ts.set n.toNat _).set n.toNat _ = _
          rw [List.set_set]
        · have := k1.ph; omega
      · exact .inr ⟨_, rfl, hq.1, by omega⟩
    · exact .inr ⟨_, rfl, hq.1, by rcases hq.2.2.2.2.2 with h | h <;> omega⟩
  · exact .inl rfl
theorem comes_try {w : Wd} {m : Ml} (h : May0 w) (hm : MayM m) : (comes w m).ts = w.ts ∨ ∃ t, (comes w m).ts = w.ts.set m.t.toNat t ∧ t.ba = (getT w m.t).ba ∧ t.ph ≠ 0 := by
  obtain ⟨_, hf, ht, _⟩ := hm
  unfold comes
  split
  · split <;> exact .inl rfl
  · split
    · split <;> exact .inl rfl
    · split
      · exact takes_try h ht
      · split
        · split
          · rename_i he
            obtain ⟨_, g2, _, _⟩ := AM.errA_zero he
            have hmt := h.try_ ht
            have hbm : (getT w m.t).ba % 8 = m.t ∧ (getT w m.t).ms = w.ms := by
              rcases hmt.2 with h0 | h0
              · omega
              · exact h0
            obtain ⟨k1, _, k3, _⟩ := (⟨hmt.1, g2, hbm.1, hbm.2⟩ : Tell w.ms m.t (getT w m.t)).acc he
            exact .inr ⟨_, rfl, k3, by have := k1.ph; omega⟩
          · exact .inl rfl
        · exact .inl rfl
theorem comes_ba {w : Wd} {m : Ml} {n : Int} (h : May0 w) (hm : MayM m) (hn : isNode n) (h0 : (getT w n).ph ≠ 0) : (getT (comes w m) n).ph ≠ 0 ∧ (getT (comes w m) n).ba = (getT w n).ba := by
  have hl := (node_nat hn).2
  rcases comes_try h hm with e | ⟨t, e, e1, e2⟩
  · have : getT (comes w m) n = getT w n := by unfold getT; rw [e]
    rw [this]; exact ⟨h0, rfl⟩
  · by_cases hx : m.t.toNat = n.toNat
    · have hmt : m.t = n := by
        have h1 := (node_nat hm.2.2.1).1
        have h2 := (node_nat hn).1
        omega
      have : getT (comes w m) n = t := by
        unfold getT
        rw [e, hx, List.getElem?_set_self (by rw [h.tl]; exact hl)]
        rfl
      rw [this, e1, hmt]
      exact ⟨e2, rfl⟩
    · have : getT (comes w m) n = getT w n := by
        unfold getT
        rw [e, List.getElem?_set_ne hx]
      rw [this]; exact ⟨h0, rfl⟩
theorem takes_ms (w : Wd) (n k : Int) (p : AM.Pr) : (takes w n k p).ms = w.ms := by
  unfold takes tells tell2 tell1
  split
  · split
    · split <;> rfl
    · rfl
  · rfl
theorem comes_ms (w : Wd) (m : Ml) : (comes w m).ms = w.ms := by
  unfold comes
  split
  · split <;> rfl
  · split
    · split <;> rfl
    · split
      · exact takes_ms ..
      · split
        · split <;> rfl
        · rfl

-- the mail of a new begin: prepares that are under way, promises that come back
def isPrep (n b : Int) (m : Ml) : Bool := decide (m.k = 1) && (decide (m.f = n) && decide (m.b = b))
def isProm (n b : Int) (m : Ml) : Bool := decide (m.k = 2) && (decide (m.t = n) && decide (m.b = b))
def load (n b : Int) (l : List Ml) : Nat := l.length + (6 * (l.filter (isPrep n b)).length + 5 * (l.filter (isProm n b)).length)
theorem filter_erase {f : Ml → Bool} : ∀ {l : List Ml} {j : Nat} {m : Ml}, l[j]? = some m → ((l.eraseIdx j).filter f).length + (if f m = true then 1 else 0) = (l.filter f).length
  | [], j, m, h => by simp at h
  | x :: l, 0, m, h => by
    simp at h; subst h
    rw [List.eraseIdx_cons_zero, List.filter_cons]
    split <;> simp_all
  | x :: l, j + 1, m, h => by
    have ih := filter_erase (f := f) (l := l) (j := j) (m := m) (by simpa using h)
    rw [List.eraseIdx_cons_succ, List.filter_cons, List.filter_cons]
    split
    · simp only [List.length_cons]; omega
    · exact ih
theorem erase_len {l : List Ml} {j : Nat} {m : Ml} (h : l[j]? = some m) : (l.eraseIdx j).length + 1 = l.length := by
  have hl := (List.getElem?_eq_some_iff.1 h).1
  rw [List.length_eraseIdx_of_lt hl]; omega
theorem load_append (n b : Int) (l r : List Ml) : load n b (l ++ r) = load n b l + load n b r := by
  unfold load
  simp only [List.filter_append, List.length_append]
  omega
theorem load_le (n b : Int) (l : List Ml) : l.length ≤ load n b l := by unfold load; omega

/-- c was found chosen, n begins anew with ballot b -/
structure Later (n b : Int) (s : ByteArray) (L : Nat) (y : Wd) : Prop where
  may : May y
  ex : ∃ g, Inv g y ∧ ∃ b0 ns, AM.most y.ms ns = true ∧ (∀ x ∈ ns, g.V x b0 s) ∧ (b0 ≤ b ∨ ∀ x ∈ ns, (∀ b' s', ¬ g.P x b b' s') ∧ ∀ (i : Nat) v, y.vs[i]? = some v → (i : Int) = x → b < v.p)
  t0 : (getT y n).ph ≠ 0
  tb : (getT y n).ba = b
  ld : y.ch.length + load n b y.ml ≤ L
theorem Later.end_ {n b : Int} {s : ByteArray} {L : Nat} {y : Wd} (h : Later n b s L y) (hn : isNode n) : (getT y n).ph < 2 ∨ (getT y n).va = s := by
  obtain ⟨g, I, b0, ns, hm, hv, hc⟩ := h.ex
  have Q := I.at_ _ _ (getT_at h.may.tl hn) h.t0
  by_cases h2 : 2 ≤ (getT y n).ph
  · right
    obtain ⟨ht, _⟩ := Q.told h2
    rw [h.tb] at ht
    rcases hc with hc | hc
    · exact safe_le I h.may.zero hm hv hc ht
    · obtain ⟨l, wi, hl, hp, _, _⟩ := I.tq _ _ ht
      obtain ⟨x, _, hx1, hx2⟩ := most_meet hl hm
      unfold AM.nodes at hx1
      obtain ⟨p, hpl, rfl⟩ := List.mem_map.1 hx1
      exact absurd (hp p hpl).1 ((hc _ hx2).1 _ _)
  · left; omega
/-- n begins -/
theorem later_start {g : Ghost} {w : Wd} {m : Mv} {c : Ch} {B : Nat} (I : Inv g w) (h : May w) (hc : c ∈ w.ch) (hk : m.k = 1) (he : errD w m = 0) (hB : w.ml.length + w.ch.length ≤ B) :
    Later m.n (nextB (getV w m.n).p m.n) c.v (B + 36) (aft w m) := by
  obtain ⟨hp, _, _⟩ := errD_zero he
  obtain ⟨_, h2, h3, _⟩ := pre_zero hp
  have hn := h2 (.inl hk)
  obtain ⟨hs, hr⟩ := h3 hk
  have h0 := h.zero
  have hv := getV_at h0.vl hn
  have hvm := h0.vote hn
  have hnn := node_nat hn
  obtain ⟨g1, g2, g3⟩ := next_gt hvm.1 hn
  have hm := may_step h he
  have ea : aft w m = begins w m.n m.v := by unfold aft; rw [if_pos hk]
  rw [ea] at hm ⊢
  obtain ⟨g', l1, _, l3, I'⟩ := I.begins h0 hn hr hs
  have hb1 := may_begin1 h0 hn hr hs
  have hms : (begins w m.n m.v).ms = w.ms := takes_ms ..
  have htry : (getT (begin1 w m.n m.v) m.n) = AM.start w.ms (nextB (getV w m.n).p m.n) m.v := begin_get h0 hn
  have hget : (getT (begins w m.n m.v) m.n).ph ≠ 0 ∧ (getT (begins w m.n m.v) m.n).ba = nextB (getV w m.n).p m.n := by
    unfold begins
    rcases takes_try (k := nextB (getV w m.n).p m.n) (p := ⟨m.n, (getV w m.n).b, (getV w m.n).v⟩) hb1 hn with e | ⟨t, e, e1, e2⟩
    · have : ∀ k p, (takes (begin1 w m.n m.v) m.n k p).ts = (begin1 w m.n m.v).ts → getT (takes (begin1 w m.n m.v) m.n k p) m.n = getT (begin1 w m.n m.v) m.n := fun k p e => by unfold getT; rw [e]
      rw [this _ _ e, htry]
      exact ⟨show ¬ (1 : Int) = 0 by decide, rfl⟩
    · have : ∀ k p, (takes (begin1 w m.n m.v) m.n k p).ts = (begin1 w m.n m.v).ts.set m.n.toNat t → getT (takes (begin1 w m.n m.v) m.n k p) m.n = t := fun k p e => by
        unfold getT
        rw [e, List.getElem?_set_self (by rw [hb1.tl]; exact hnn.2)]
        rfl
      rw [this _ _ e, e1, htry]
      exact ⟨e2, rfl⟩
  obtain ⟨b0, ns, q1, q2⟩ := I.ch c hc
  refine ⟨hm, ⟨g', I', b0, ns, by rw [hms]; exact q1, fun x hx => l1.V _ _ _ (q2 x hx), ?_⟩, hget.1, hget.2, ?_⟩
  · by_cases hb : b0 ≤ nextB (getV w m.n).p m.n
    · exact .inl hb
    · refine .inr fun x hx => ?_
      have hV := q2 x hx
      have hg0 := I.tg _ _ (I.tv _ _ _ hV)
      have hvote : ∀ (i : Nat) v, w.vs[i]? = some v → (i : Int) = x → nextB (getV w m.n).p m.n < v.p := fun i v hi hix => by
        rw [← hix] at hV
        have h1 := (I.vv i v hi).1 _ _ hV
        have h2 := h0.vs v (List.mem_of_getElem? hi)
        unfold BM.good at hg0
        rcases h2.2 with ⟨e, _⟩ | ⟨_, _, e, _⟩
        · omega
        · omega
      have hne : x ≠ m.n := fun e => by
        have := hvote _ _ hv (by rw [hnn.1, e])
        omega
      refine ⟨fun b' s' hP => ?_, fun i v hi hix => ?_⟩
      · rcases l3 _ _ _ _ hP with hP | ⟨e, _⟩
        · have := I.pb _ _ _ _ hP _ _ hv (by rw [hnn.1]; exact g2)
          omega
        · exact hne e
      · have hT : Turned w (begins w m.n m.v) m.n.toNat := by
          have h1 : Turned w (begin1 w m.n m.v) m.n.toNat := Turned.set (v := ⟨nextB (getV w m.n).p m.n, (getV w m.n).b, (getV w m.n).v⟩) rfl fun x hx => by
            rw [hv] at hx
            injection hx with hx
            subst hx
            exact ⟨Int.le_of_lt g1, Int.le_refl _⟩
          exact Turned.trans (by unfold begin1; simp) h1 (turned_takes hb1 hn)
        have hne' : i ≠ m.n.toNat := fun e => hne (by rw [← hix, e, hnn.1])
        rw [hT.1 i hne'] at hi
        exact hvote i v hi hix
  · -- what is under way
    have hold : ∀ x ∈ w.ml, x.b ≠ nextB (getV w m.n).p m.n ∨ (x.k ≠ 1 ∧ x.k ≠ 2) := fun x hx => by
      by_cases e : x.b = nextB (getV w m.n).p m.n
      · right
        have Q := I.mo x hx
        refine ⟨fun e1 => ?_, fun e2 => ?_⟩
        · have := Q.m1 e1 _ _ hv (by rw [hnn.1, e]; exact g2)
          omega
        · have := I.pb _ _ _ _ (Q.m2 e2) _ _ hv (by rw [hnn.1, e]; exact g2)
          omega
      · exact .inl e
    have hz1 : (w.ml.filter (isPrep m.n (nextB (getV w m.n).p m.n))).length = 0 := by
      rw [List.length_eq_zero_iff, List.filter_eq_nil_iff]
      intro x hx hh
      unfold isPrep at hh
      simp only [Bool.and_eq_true, decide_eq_true_eq] at hh
      rcases hold x hx with e | e
      · exact e hh.2.2
      · exact e.1 hh.1
    have hz2 : (w.ml.filter (isProm m.n (nextB (getV w m.n).p m.n))).length = 0 := by
      rw [List.length_eq_zero_iff, List.filter_eq_nil_iff]
      intro x hx hh
      unfold isProm at hh
      simp only [Bool.and_eq_true, decide_eq_true_eq] at hh
      rcases hold x hx with e | e
      · exact e hh.2.2
      · exact e.2 hh.1
    obtain ⟨l, k1, k2, k3⟩ := takes_mail (k := nextB (getV w m.n).p m.n) (p := ⟨m.n, (getV w m.n).b, (getV w m.n).v⟩) hb1 hn
    have h5 := others_len5 (m := mk m.n 0 1 (nextB (getV w m.n).p m.n) 0 .empty) h0.ms hn
    have hch := (aft_ch w m).2
    rw [ea] at hch
    have eml : (begins w m.n m.v).ml = (w.ml ++ others w.ms (mk m.n 0 1 (nextB (getV w m.n).p m.n) 0 .empty)) ++ l := k1
    have hlen := begins_ml h0 hn hr hs
    rw [eml] at hlen ⊢
    have e1 : (l.filter (isPrep m.n (nextB (getV w m.n).p m.n))).length = 0 := by
      rw [List.length_eq_zero_iff, List.filter_eq_nil_iff]
      intro x hx hh
      unfold isPrep at hh
      simp only [Bool.and_eq_true, decide_eq_true_eq] at hh
      have := k3 x hx
      omega
    have e2 : (l.filter (isProm m.n (nextB (getV w m.n).p m.n))).length = 0 := by
      rw [List.length_eq_zero_iff, List.filter_eq_nil_iff]
      intro x hx hh
      unfold isProm at hh
      simp only [Bool.and_eq_true, decide_eq_true_eq] at hh
      have := k3 x hx
      omega
    have e3 : ((others w.ms (mk m.n 0 1 (nextB (getV w m.n).p m.n) 0 .empty)).filter (isProm m.n (nextB (getV w m.n).p m.n))).length = 0 := by
      rw [List.length_eq_zero_iff, List.filter_eq_nil_iff]
      intro x hx hh
      unfold isProm at hh
      simp only [Bool.and_eq_true, decide_eq_true_eq] at hh
      obtain ⟨y, _, _, rfl⟩ := mem_others hx
      exact absurd hh.1 (show ¬ (1 : Int) = 2 by decide)
    have e4 := List.length_filter_le (isPrep m.n (nextB (getV w m.n).p m.n)) (others w.ms (mk m.n 0 1 (nextB (getV w m.n).p m.n) 0 .empty))
    unfold load
    simp only [List.filter_append, List.length_append] at hlen ⊢
    omega
/-- a piece of its mail comes: nothing is refused, and there is less to come -/
theorem later_step {n b : Int} {s : ByteArray} {L : Nat} {y : Wd} (h : Later n b s L y) (hn : isNode n) (hL : L ≤ 1000) {m : Mv} (hk : m.k = 2) (h0 : 0 ≤ m.at_) (h1 : m.at_ < y.ml.length)
    (hmine : isPrep n b (mailAt y m.at_) = true ∨ isProm n b (mailAt y m.at_) = true) :
    errD y m = 0 ∧ Later n b s L (aft y m) ∧ load n b (aft y m).ml < load n b y.ml := by
  have hz := h.may.zero
  obtain ⟨hat, hmem⟩ := mail_at h0 h1
  have hmm := hz.mm _ hmem
  have hp : pre y m = 0 := by
    unfold pre
    rw [if_neg (by omega), if_neg (by omega), if_neg (by omega)]
  have ea : aft y m = comes (gone y m.at_.toNat) (mailAt y m.at_) := by
    unfold aft
    rw [if_neg (by omega), if_neg (by omega), if_pos hk]
  have hcut := hz.cutM m.at_.toNat
  generalize hx : mailAt y m.at_ = x at *
  have hkx : x.k = 1 ∨ x.k = 2 := by
    rcases hmine with e | e
    · unfold isPrep at e; simp only [Bool.and_eq_true, decide_eq_true_eq] at e; exact .inl e.1
    · unfold isProm at e; simp only [Bool.and_eq_true, decide_eq_true_eq] at e; exact .inr e.1
  have hbx : x.b = b := by
    rcases hmine with e | e
    · unfold isPrep at e; simp only [Bool.and_eq_true, decide_eq_true_eq] at e; exact e.2.2
    · unfold isProm at e; simp only [Bool.and_eq_true, decide_eq_true_eq] at e; exact e.2.2
  -- the load
  have c1 := filter_erase (f := isPrep n b) hat
  have c2 := filter_erase (f := isProm n b) hat
  have c3 := erase_len hat
  have hld : (aft y m).ch.length ≤ y.ch.length + 1 := (aft_ch y m).2
  have hload : load n b (aft y m).ml + 1 ≤ load n b y.ml := by
    rw [ea]
    have hone : ∀ z : Ml, load n b [z] ≤ 1 + (if isPrep n b z = true then 6 else 0) + (if isProm n b z = true then 5 else 0) := fun z => by
      unfold load
      simp only [List.length_cons, List.length_nil, List.filter_cons, List.filter_nil]
      split <;> split <;> simp
    rcases hmine with e | e
    · have e1 : x.k = 1 := by unfold isPrep at e; simp only [Bool.and_eq_true, decide_eq_true_eq] at e; exact e.1
      rw [if_pos e] at c1
      have hne : isProm n b x = false := by unfold isProm; simp [e1]
      rw [hne] at c2
      have hback : ∀ z : Ml, isPrep n b z = false → load n b (y.ml.eraseIdx m.at_.toNat ++ [z]) + 1 ≤ load n b y.ml := fun z hz1 => by
        have := hone z
        rw [hz1] at this
        rw [load_append]
        have h6 : (if isProm n b z = true then 5 else 0) ≤ 5 := by split <;> omega
        simp only [Bool.false_eq_true, if_false] at this c2
        unfold load at this ⊢
        omega
      unfold comes
      rw [if_pos e1]
      split
      · exact hback _ (by unfold isPrep; rw [show decide ((mk x.t x.f 2 x.b (getV (gone y m.at_.toNat) x.t).b (getV (gone y m.at_.toNat) x.t).v).k = 1) = false from rfl]; rfl)
      · exact hback _ (by unfold isPrep; rw [show decide ((mk x.t x.f 5 x.b (getV (gone y m.at_.toNat) x.t).p .empty).k = 1) = false from rfl]; rfl)
    · have e1 : x.k = 2 := by unfold isProm at e; simp only [Bool.and_eq_true, decide_eq_true_eq] at e; exact e.1
      rw [if_pos e] at c2
      obtain ⟨l, k1, k2, k3⟩ := takes_mail (w := gone y m.at_.toNat) (n := x.t) (k := x.b) (p := ⟨x.f, x.p, x.v⟩) hcut hmm.2.2.1
      have ecm : comes (gone y m.at_.toNat) x = takes (gone y m.at_.toNat) x.t x.b ⟨x.f, x.p, x.v⟩ := by
        unfold comes
        rw [if_neg (by omega), if_neg (by omega), if_pos e1]
      rw [ecm, k1, load_append]
      have f1 : (l.filter (isPrep n b)).length = 0 := by
        rw [List.length_eq_zero_iff, List.filter_eq_nil_iff]
        intro z hz hh
        unfold isPrep at hh
        simp only [Bool.and_eq_true, decide_eq_true_eq] at hh
        have := k3 z hz
        omega
      have f2 : (l.filter (isProm n b)).length = 0 := by
        rw [List.length_eq_zero_iff, List.filter_eq_nil_iff]
        intro z hz hh
        unfold isProm at hh
        simp only [Bool.and_eq_true, decide_eq_true_eq] at hh
        have := k3 z hz
        omega
      have hg : (gone y m.at_.toNat).ml = y.ml.eraseIdx m.at_.toNat := rfl
      rw [hg]
      unfold load
      rw [f1, f2]
      have h6 : 0 ≤ (if isPrep n b x = true then 1 else 0) := Nat.zero_le _
      omega
  have hb := h.ld
  have hle := load_le n b (aft y m).ml
  have he : errD y m = 0 := by
    unfold errD
    rw [if_neg (by simpa using hp), if_neg (by omega)]
  refine ⟨he, ⟨may_step h.may he, ?_, ?_, ?_, by omega⟩, by omega⟩
  · obtain ⟨g, I, b0, ns, q1, q2, q3⟩ := h.ex
    have Icut : Inv g (gone y m.at_.toNat) := I.mail (fun z hz => .inl (List.mem_of_mem_eraseIdx hz))
    obtain ⟨g', l1, _, l3, I'⟩ := Icut.comes hcut hmm (I.mo _ hmem)
    rw [ea]
    refine ⟨g', I', b0, ns, by rw [comes_ms]; exact q1, fun z hz => l1.V _ _ _ (q2 z hz), ?_⟩
    rcases q3 with q3 | q3
    · exact .inl q3
    · refine .inr fun z hz => ⟨fun b' s' hP => ?_, fun i v hi hiz => ?_⟩
      · rcases l3 _ _ _ _ hP with hP | ⟨e1, _, e3⟩
        · exact (q3 z hz).1 _ _ hP
        · have hv := getV_at hcut.vl hmm.2.2.1
          have := (q3 z hz).2 _ _ hv (by rw [(node_nat hmm.2.2.1).1, e1])
          omega
      · have hT := turned_comes hcut hmm
        by_cases hi2 : i = x.t.toNat
        · subst hi2
          have hv := getV_at hcut.vl hmm.2.2.1
          have h7 := (hT.2 _ _ hv hi).1
          have := (q3 z hz).2 _ _ hv hiz
          omega
        · rw [hT.1 i hi2] at hi
          exact (q3 z hz).2 i v hi hiz
  · rw [ea]
    exact (comes_ba hcut hmm hn (show (getT (gone y m.at_.toNat) n).ph ≠ 0 from h.t0)).1
  · rw [ea]
    exact (comes_ba hcut hmm hn (show (getT (gone y m.at_.toNat) n).ph ≠ 0 from h.t0)).2.trans h.tb
end Go.Proofs.Ytiiobafcgdelmaa.DC

namespace Go.Proofs.Ytiiobafcgdelmaa.DC
set_option linter.unusedVariables false
set_option linter.unusedSimpArgs false

/-- the numbers of mail that was sent -/
def PM (w : Wd) : Prop := ∀ m ∈ w.ml, m.p ≤ 9223372036854775807
theorem okP_le {p : Int} (h : VM.okP p) : p ≤ 9223372036854775807 ∧ 0 ≤ p := by
  rcases h with h | h
  · omega
  · unfold BM.good at h; omega
theorem okA_le {p b : Int} {s : ByteArray} (h : VM.okA p b s) : b ≤ 9223372036854775807 ∧ 0 ≤ b ∧ s.size ≤ 1024 := by
  rcases h with ⟨h1, h2⟩ | ⟨_, h1, _, h2⟩
  · subst h2; exact ⟨by omega, by omega, by decide⟩
  · unfold BM.good at h1; omega
theorem PM.add {w : Wd} {l : List Ml} (h : PM w) (hl : ∀ m ∈ l, m.p ≤ 9223372036854775807) : PM ⟨w.ms, w.vs, w.ts, w.ml ++ l, w.ch⟩ := by
  intro m hm
  rcases List.mem_append.1 hm with hm | hm
  · exact h m hm
  · exact hl m hm
theorem pm_others {ms : List Int} {x m : Ml} (h : m ∈ others ms x) : m.p = x.p := by
  obtain ⟨y, _, _, rfl⟩ := mem_others h
  rfl
theorem pm_tells {w : Wd} {n : Int} {a : AM.At} (h : PM w) : PM (tells w n a) := by
  have h1 : PM (tell1 w n a) := by
    intro m hm
    rcases List.mem_append.1 hm with hm | hm
    · exact h m hm
    · rw [pm_others hm]; show (0 : Int) ≤ _; omega
  unfold tells
  split
  · exact h1
  · exact h1
theorem pm_takes {w : Wd} {n k : Int} {p : AM.Pr} (h : PM w) : PM (takes w n k p) := by
  unfold takes
  split
  · split
    · exact pm_tells h
    · exact h
  · exact h
theorem pm_comes {w : Wd} {m : Ml} (h : PM w) (h0 : May0 w) (hm : MayM m) : PM (comes w m) := by
  have hn := hm.2.2.1
  have hv := h0.vote hn
  have hp := okP_le hv.1
  have hb := okA_le hv.2
  have key : ∀ x : Ml, x.p ≤ 9223372036854775807 → ∀ m ∈ w.ml ++ [x], m.p ≤ 9223372036854775807 := by
    intro x hx m hm
    rcases List.mem_append.1 hm with hm | hm
    · exact h m hm
    · rw [List.mem_singleton] at hm; subst hm; exact hx
  unfold comes
  split
  · split
    · exact key _ hb.1
    · exact key _ hp.1
  · split
    · split
      · exact key _ (by show (0 : Int) ≤ _; omega)
      · exact key _ hp.1
    · split
      · exact pm_takes h
      · split
        · split
          · exact h
          · exact h
        · exact h
theorem pm_gone {w : Wd} (h : PM w) (j : Nat) : PM (gone w j) := fun m hm => h m (List.mem_of_mem_eraseIdx hm)
theorem pm_aft {w : Wd} {m : Mv} (h : PM w) (h0 : May0 w) (hp : pre w m = 0) : PM (aft w m) := by
  obtain ⟨h1, h2, h3, h4⟩ := pre_zero hp
  unfold aft
  split
  · refine pm_takes (fun x hx => ?_)
    rcases List.mem_append.1 hx with hx | hx
    · exact h x hx
    · rw [pm_others hx]; show (0 : Int) ≤ _; omega
  · split
    · exact h
    · split
      · rename_i e
        obtain ⟨k1, k2⟩ := h4 (.inl e)
        exact pm_comes (pm_gone h _) (h0.cutM _) (h0.mm _ (mail_at k1 k2).2)
      · split
        · rename_i e
          obtain ⟨k1, k2⟩ := h4 (.inr (.inl e))
          exact pm_comes h h0 (h0.mm _ (mail_at k1 k2).2)
        · exact pm_gone h _
theorem pm_step {w : Wd} {m : Mv} (h : PM w) (h0 : May w) (he : errD w m = 0) : PM (aft w m) := pm_aft h h0.zero (errD_zero he).1
theorem pm_start (ms : List Int) : PM (start ms) := fun m hm => absurd hm (by intro h; cases h)
theorem pm_run : ∀ (l : List Mv) (w : Wd), PM w → May w → PM (runF w l)
  | [], w, h, _ => by unfold runF; exact h
  | m :: l, w, h, h0 => by
    unfold runF
    split
    · rename_i he
      exact pm_run l _ (pm_step h h0 he) (may_step h0 he)
    · exact pm_run l _ h h0
end Go.Proofs.Ytiiobafcgdelmaa.DC
