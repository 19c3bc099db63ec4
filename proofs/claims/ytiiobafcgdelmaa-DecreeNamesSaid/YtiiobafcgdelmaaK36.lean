/-
  What holds of a world's history goes on behind whatever move. No program.
-/
import Derived.Test.YtiiobafcgdelmaaK35
namespace Go.Proofs.Ytiiobafcgdelmaa.DC
set_option linter.unusedVariables false
set_option linter.unusedSimpArgs false

theorem begun_set {vs : List Vt} {b : Int} {j : Nat} {v v' : Vt} (h : Begun vs b) (hv : vs[j]? = some v) (hp : v.p ≤ v'.p) : Begun (vs.set j v') b := by
  intro i x hx hi
  rcases set_get hx with ⟨rfl, rfl⟩ | ⟨_, hx⟩
  · exact Int.le_trans (h _ _ hv hi) hp
  · exact h _ _ hx hi
theorem MailOk.le {g g' : Ghost} {vs : List Vt} {m : Ml} (h : MailOk g vs m) (hl : g.Le g') : MailOk g' vs m :=
  ⟨h.m1, fun e => hl.P _ _ _ _ (h.m2 e), fun e => hl.T _ _ (h.m3 e), fun e => by obtain ⟨s, hs⟩ := h.m4 e; exact ⟨s, hl.V _ _ _ hs⟩⟩
theorem MailOk.set {g : Ghost} {vs : List Vt} {m : Ml} {j : Nat} {v v' : Vt} (h : MailOk g vs m) (hv : vs[j]? = some v) (hp : v.p ≤ v'.p) : MailOk g (vs.set j v') m := ⟨fun e => begun_set (h.m1 e) hv hp, h.m2, h.m3, h.m4⟩
theorem TryOk.set {g : Ghost} {vs : List Vt} {t : AM.At} {j : Nat} {v v' : Vt} (h : TryOk g vs t) (hv : vs[j]? = some v) (hp : v.p ≤ v'.p) : TryOk g (vs.set j v') t := ⟨begun_set h.beg hv hp, h.wi, h.ps, h.ask, h.told⟩

theorem Inv.wish {g : Ghost} {w : Wd} (I : Inv g w) (s : ByteArray) : Inv ⟨g.T, g.V, g.P, fun x => g.Wi x ∨ x = s⟩ w :=
  ⟨I.t1, I.tg, fun b s' h => by obtain ⟨l, wi, h1, h2, h3, h4⟩ := I.tq b s' h; exact ⟨l, wi, h1, h2, h3, .inl h4⟩, I.tb, I.tv, I.pn, I.pb, I.vv, I.pp,
   fun i t ht h0 => by have k := I.at_ i t ht h0; exact ⟨k.beg, .inl k.wi, k.ps, k.ask, k.told⟩,
   fun m hm => by have k := I.mo m hm; exact ⟨k.m1, k.m2, k.m3, k.m4⟩, I.ch⟩
theorem Inv.mail {g : Ghost} {w : Wd} (I : Inv g w) {l : List Ml} (h : ∀ m ∈ l, m ∈ w.ml ∨ MailOk g w.vs m) : Inv g ⟨w.ms, w.vs, w.ts, l, w.ch⟩ :=
  ⟨I.t1, I.tg, I.tq, I.tb, I.tv, I.pn, I.pb, I.vv, I.pp, I.at_, fun m hm => by
    rcases h m hm with k | k
    · exact I.mo m k
    · exact k, I.ch⟩
theorem Inv.try_ {g : Ghost} {w : Wd} (I : Inv g w) (j : Nat) {t : AM.At} (h : t.ph ≠ 0 → TryOk g w.vs t) : Inv g ⟨w.ms, w.vs, w.ts.set j t, w.ml, w.ch⟩ :=
  ⟨I.t1, I.tg, I.tq, I.tb, I.tv, I.pn, I.pb, I.vv, I.pp, fun i x hx h0 => by
    rcases set_get hx with ⟨_, rfl⟩ | ⟨_, hx⟩
    · exact h h0
    · exact I.at_ i x hx h0, I.mo, I.ch⟩
theorem Inv.choose {g : Ghost} {w : Wd} (I : Inv g w) {l : List Ch} (h : ∀ c ∈ l, ∃ b ns, AM.most w.ms ns = true ∧ ∀ x ∈ ns, g.V x b c.v) : Inv g ⟨w.ms, w.vs, w.ts, w.ml, w.ch ++ l⟩ :=
  ⟨I.t1, I.tg, I.tq, I.tb, I.tv, I.pn, I.pb, I.vv, I.pp, I.at_, I.mo, fun c hc => by
    rcases List.mem_append.1 hc with k | k
    · exact I.ch c k
    · exact h c k⟩
def Ghost.addP (g : Ghost) (n k b : Int) (s : ByteArray) : Ghost := ⟨g.T, g.V, fun x k' b' s' => g.P x k' b' s' ∨ (x = n ∧ k' = k ∧ b' = b ∧ s' = s), g.Wi⟩
def Ghost.addV (g : Ghost) (n k : Int) (s : ByteArray) : Ghost := ⟨g.T, fun x b s' => g.V x b s' ∨ (x = n ∧ b = k ∧ s' = s), g.P, g.Wi⟩
def Ghost.addT (g : Ghost) (k : Int) (s : ByteArray) : Ghost := ⟨fun b s' => g.T b s' ∨ (b = k ∧ s' = s), g.V, g.P, g.Wi⟩
theorem le_addP (g : Ghost) (n k b : Int) (s : ByteArray) : g.Le (g.addP n k b s) := ⟨fun _ _ h => h, fun _ _ _ h => h, fun _ _ _ _ h => .inl h, fun _ h => h⟩
theorem le_addV (g : Ghost) (n k : Int) (s : ByteArray) : g.Le (g.addV n k s) := ⟨fun _ _ h => h, fun _ _ _ h => .inl h, fun _ _ _ _ h => h, fun _ h => h⟩
theorem le_addT (g : Ghost) (k : Int) (s : ByteArray) : g.Le (g.addT k s) := ⟨fun _ _ h => .inl h, fun _ _ _ h => h, fun _ _ _ _ h => h, fun _ h => h⟩
/-- a vote promises -/
theorem Inv.promise {g : Ghost} {w : Wd} (I : Inv g w) {n k : Int} (hn : isNode n) {v : Vt} (hv : w.vs[n.toNat]? = some v) (hk : v.p ≤ k) (hbeg : Begun (w.vs.set n.toNat ⟨k, v.b, v.v⟩) k) :
    Inv (g.addP n k v.b v.v) ⟨w.ms, w.vs.set n.toNat ⟨k, v.b, v.v⟩, w.ts, w.ml, w.ch⟩ := by
  have hnn := node_nat hn
  have hset : ∀ b, Begun w.vs b → Begun (w.vs.set n.toNat ⟨k, v.b, v.v⟩) b := fun b h => begun_set h hv hk
  refine ⟨I.t1, I.tg, fun b s h => ?_, fun b s h => hset _ (I.tb b s h), I.tv, fun x k' b s h => ?_, fun x k' b s h => ?_, fun i x hx => ?_, fun i x hx k' b s h => ?_, fun i t ht h0 => ?_, fun m hm => ?_, I.ch⟩
  · obtain ⟨l, wi, h1, h2, h3, h4⟩ := I.tq b s h
    exact ⟨l, wi, h1, fun p hp => ⟨.inl (h2 p hp).1, (h2 p hp).2⟩, h3, h4⟩
  · rcases h with h | ⟨rfl, _⟩
    · exact I.pn _ _ _ _ h
    · exact hn
  · rcases h with h | ⟨_, rfl, _⟩
    · exact hset _ (I.pb _ _ _ _ h)
    · exact hbeg
  · rcases set_get hx with ⟨rfl, rfl⟩ | ⟨_, hx⟩
    · exact I.vv n.toNat v hv
    · exact I.vv _ _ hx
  · rcases set_get hx with ⟨rfl, rfl⟩ | ⟨hne, hx⟩
    · rcases h with h | ⟨_, rfl, rfl, rfl⟩
      · obtain ⟨p1, p2, p3⟩ := I.pp n.toNat v hv _ _ _ h
        exact ⟨Int.le_trans p1 hk, p2, p3⟩
      · obtain ⟨q1, q2⟩ := I.vv n.toNat v hv
        exact ⟨Int.le_refl _, fun b' s' h1 _ => q1 _ _ h1, q2⟩
    · rcases h with h | ⟨e, _⟩
      · exact I.pp _ _ hx _ _ _ h
      · omega
  · have q := (I.at_ i t ht h0).set (v' := ⟨k, v.b, v.v⟩) hv hk
    exact ⟨q.beg, q.wi, fun p hp => .inl (q.ps p hp), q.ask, q.told⟩
  · exact ((I.mo m hm).set (v' := ⟨k, v.b, v.v⟩) hv hk).le (le_addP g n k v.b v.v)
/-- a vote accepts -/
theorem Inv.accept {g : Ghost} {w : Wd} (I : Inv g w) {n k : Int} {s : ByteArray} (hn : isNode n) {v : Vt} (hv : w.vs[n.toNat]? = some v) (hk : v.p ≤ k) (hvb : v.b ≤ k) (hT : g.T k s) :
    Inv (g.addV n k s) ⟨w.ms, w.vs.set n.toNat ⟨k, k, s⟩, w.ts, w.ml, w.ch⟩ := by
  have hnn := node_nat hn
  have hset : ∀ b, Begun w.vs b → Begun (w.vs.set n.toNat ⟨k, k, s⟩) b := fun b h => begun_set h hv hk
  refine ⟨I.t1, I.tg, I.tq, fun b s h => hset _ (I.tb b s h), fun x b s' h => ?_, I.pn, fun x k' b s h => hset _ (I.pb _ _ _ _ h), fun i x hx => ?_, fun i x hx k' b s' h => ?_, fun i t ht h0 => ?_, fun m hm => ?_, fun c hc => ?_⟩
  · rcases h with h | ⟨_, rfl, rfl⟩
    · exact I.tv _ _ _ h
    · exact hT
  · rcases set_get hx with ⟨rfl, rfl⟩ | ⟨hne, hx⟩
    · refine ⟨fun b s' h => ?_, fun _ => .inr ⟨hnn.1, rfl, rfl⟩⟩
      rcases h with h | ⟨_, rfl, _⟩
      · exact Int.le_trans ((I.vv n.toNat v hv).1 _ _ h) hvb
      · exact Int.le_refl _
    · obtain ⟨q1, q2⟩ := I.vv _ _ hx
      refine ⟨fun b s' h => ?_, fun h0 => .inl (q2 h0)⟩
      rcases h with h | ⟨e, _⟩
      · exact q1 _ _ h
      · omega
  · rcases set_get hx with ⟨rfl, rfl⟩ | ⟨hne, hx⟩
    · obtain ⟨p1, p2, p3⟩ := I.pp n.toNat v hv _ _ _ h
      refine ⟨Int.le_trans p1 hk, fun b' s'' h1 h2 => ?_, fun h0 => .inl (p3 h0)⟩
      rcases h1 with h1 | ⟨_, rfl, _⟩
      · exact p2 _ _ h1 h2
      · omega
    · obtain ⟨p1, p2, p3⟩ := I.pp _ _ hx _ _ _ h
      refine ⟨p1, fun b' s'' h1 h2 => ?_, fun h0 => .inl (p3 h0)⟩
      rcases h1 with h1 | ⟨e, _⟩
      · exact p2 _ _ h1 h2
      · omega
  · have q := (I.at_ i t ht h0).set (v' := ⟨k, k, s⟩) hv hk
    exact ⟨q.beg, q.wi, q.ps, q.ask, fun h2 => ⟨(q.told h2).1, fun x hx => .inl ((q.told h2).2 x hx)⟩⟩
  · exact ((I.mo m hm).set (v' := ⟨k, k, s⟩) hv hk).le (le_addV g n k s)
  · obtain ⟨b, ns, h1, h2⟩ := I.ch c hc
    exact ⟨b, ns, h1, fun x hx => .inl (h2 x hx)⟩
/-- an attempt has what to tell -/
theorem Inv.tell {g : Ghost} {w : Wd} (I : Inv g w) (h : May0 w) {n : Int} (hn : isNode n) {a : AM.At} (ht : Tell w.ms n a) (hph : a.ph = 2) (hac : a.ac = []) (hold : ∀ s, ¬ g.T a.ba s) (hbeg : Begun w.vs a.ba) (hwi : g.Wi a.wi) (hps : ∀ p ∈ a.ps, g.P p.n a.ba p.b p.v) :
    Inv (g.addT a.ba a.va) ⟨w.ms, w.vs, w.ts.set n.toNat a, w.ml, w.ch⟩ := by
  have hnn := node_nat hn
  have hgood := may_good ht.may (by omega)
  refine ⟨fun b s s' h1 h2 => ?_, fun b s h1 => ?_, fun b s h1 => ?_, fun b s h1 => ?_, fun x b s h1 => .inl (I.tv _ _ _ h1), I.pn, I.pb, I.vv, I.pp, fun i t hti h0 => ?_, fun m hm => (I.mo m hm).le (le_addT g _ _), I.ch⟩
  · rcases h1 with h1 | ⟨rfl, rfl⟩ <;> rcases h2 with h2 | ⟨e, rfl⟩
    · exact I.t1 _ _ _ h1 h2
    · rw [e] at h1; exact absurd h1 (hold _)
    · exact absurd h2 (hold _)
    · rfl
  · rcases h1 with h1 | ⟨rfl, _⟩
    · exact I.tg _ _ h1
    · exact ht.good
  · rcases h1 with h1 | ⟨rfl, rfl⟩
    · obtain ⟨l, wi, q1, q2, q3, q4⟩ := I.tq b s h1
      exact ⟨l, wi, q1, q2, q3, q4⟩
    · obtain ⟨_, k2, k3⟩ := ht.va
      rw [ht.ms] at k3
      exact ⟨a.ps, a.wi, k3, fun p hp => ⟨hps p hp, (okP_bal (List.all_eq_true.1 hgood.2.2 p hp) hgood.1).1⟩, k2, hwi⟩
  · rcases h1 with h1 | ⟨rfl, _⟩
    · exact I.tb _ _ h1
    · exact hbeg
  · rcases set_get hti with ⟨rfl, rfl⟩ | ⟨hne, hti⟩
    · exact ⟨hbeg, hwi, hps, fun e => by omega, fun _ => ⟨.inr ⟨rfl, rfl⟩, fun x hx => by rw [hac] at hx; cases hx⟩⟩
    · have q := I.at_ i t hti h0
      refine ⟨q.beg, q.wi, q.ps, fun e s hs => ?_, fun h2 => ⟨.inl (q.told h2).1, (q.told h2).2⟩⟩
      rcases hs with hs | ⟨e2, _⟩
      · exact q.ask e s hs
      · have h8 := (h.ts i t hti).2
        have hb := ht.ba
        rcases h8 with h8 | ⟨h8, _⟩
        · exact h0 h8
        · rw [e2] at h8; omega

/-- the choice that a node finds -/
theorem found_ok {g : Ghost} {ms : List Int} {n n' was : Int} {t : AM.At} (ht : Tell ms n t) (hT : ∀ x ∈ t.ac, g.V x t.ba t.va) : ∀ c ∈ found n' was t, ∃ b ns, AM.most ms ns = true ∧ ∀ x ∈ ns, g.V x b c.v := by
  intro c hc
  obtain ⟨rfl, h3⟩ := mem_found hc
  obtain ⟨_, _, _, k⟩ := AM.may_pos ht.may (by omega)
  rw [if_neg (by omega)] at k
  refine ⟨t.ba, t.ac, ?_, hT⟩
  rw [← ht.ms, k.2.2, h3]; rfl
theorem Inv.tells {g : Ghost} {w : Wd} (I : Inv g w) (h : May0 w) {n : Int} (hn : isNode n) {a : AM.At} (ht : Tell w.ms n a) (hph : a.ph = 2) (hac : a.ac = []) (hold : ∀ s, ¬ g.T a.ba s) (hbeg : Begun w.vs a.ba) (hwi : g.Wi a.wi) (hps : ∀ p ∈ a.ps, g.P p.n a.ba p.b p.v) :
    ∃ g', g.Le g' ∧ g'.Wi = g.Wi ∧ g'.P = g.P ∧ Inv g' (tells w n a) := by
  have I1 := I.tell h hn ht hph hac hold hbeg hwi hps
  have I2 : Inv (g.addT a.ba a.va) (tell1 w n a) := I1.mail (l := w.ml ++ others w.ms (DC.mk n 0 3 a.ba 0 a.va)) (fun m hm => by
    rcases List.mem_append.1 hm with hm | hm
    · exact .inl hm
    · obtain ⟨y, _, _, rfl⟩ := mem_others hm
      exact .inr ⟨fun e => absurd e (show ¬ (3 : Int) = 1 by decide), fun e => absurd e (show ¬ (3 : Int) = 2 by decide), fun _ => .inr ⟨rfl, rfl⟩, fun e => absurd e (show ¬ (3 : Int) = 4 by decide)⟩)
  unfold DC.tells
  split
  · rename_i hc
    have hv := getV_at h.vl hn
    have I3 := I2.accept hn (n := n) (k := a.ba) (s := a.va) (v := getV w n) hv hc.2 (vote_le h hn ht.good hc.2) (.inr ⟨rfl, rfl⟩)
    have he := errA_own ht hc.1
    obtain ⟨k1, k2, k3, k4, k5, k6⟩ := ht.acc he
    have hVn : ((g.addT a.ba a.va).addV n a.ba a.va).V n a.ba a.va := .inr ⟨rfl, rfl, rfl⟩
    have hac2 : ∀ x ∈ (AM.acc a a.ba n).ac, ((g.addT a.ba a.va).addV n a.ba a.va).V x (AM.acc a a.ba n).ba (AM.acc a a.ba n).va := fun x hx => by
      rw [k4, hac] at hx
      rcases (AM.mem_addIs _ _ _).1 hx with rfl | hx
      · rw [k2, k3]; exact hVn
      · cases hx
    have I4 := I3.try_ n.toNat (t := AM.acc a a.ba n) (fun _ => ⟨by rw [k3]; exact begun_set hbeg hv hc.2, by rw [k6]; exact hwi, fun p hp => by rw [k5] at hp; rw [k3]; exact hps p hp, fun e => by have := k1.ph; omega, fun _ => ⟨by rw [k2, k3]; exact .inr ⟨rfl, rfl⟩, hac2⟩⟩)
    have I5 := I4.choose (l := found n a.ph (AM.acc a a.ba n)) (found_ok k1 hac2)
    refine ⟨_, (le_addT g a.ba a.va).trans (le_addV _ n a.ba a.va), rfl, rfl, ?_⟩
    unfold tell2 tell1
    simp only [tell1, List.set_set] at I5 ⊢
    exact I5
  · exact ⟨_, le_addT g a.ba a.va, rfl, rfl, I2⟩
theorem Inv.takes {g : Ghost} {w : Wd} (I : Inv g w) (h : May0 w) {n k : Int} {p : AM.Pr} (hn : isNode n) (hP : g.P p.n k p.b p.v) : ∃ g', g.Le g' ∧ g'.Wi = g.Wi ∧ g'.P = g.P ∧ Inv g' (takes w n k p) := by
  unfold DC.takes
  split
  · rename_i he
    obtain ⟨e1, e2, e3, e4, e5⟩ := AM.errP_zero he
    obtain ⟨q1, q2, q3, q4, q5, q6⟩ := prom_parts he
    have hmt := prom_t (h.try_ hn) he
    have Q := I.at_ _ _ (getT_at h.tl hn) (by omega)
    have hps : ∀ r ∈ (AM.prom (getT w n) k p).ps, g.P r.n (AM.prom (getT w n) k p).ba r.b r.v := fun r hr => by
      rw [q4] at hr
      rw [q1]
      rcases AM.mem_addPs.1 hr with hr | ⟨rfl, _⟩
      · exact Q.ps r hr
      · rw [← e3]; exact hP
    split
    · rename_i h2
      refine I.tells h hn ⟨hmt.1, by omega, ?_, ?_⟩ h2 q5 (by rw [q1]; exact Q.ask e2) (by rw [q1]; exact Q.beg) (by rw [q3]; exact Q.wi) hps
      · rcases hmt.2 with h0 | h0
        · omega
        · exact h0.1
      · rcases hmt.2 with h0 | h0
        · omega
        · exact h0.2
    · rename_i h2
      refine ⟨g, Ghost.Le.refl g, rfl, rfl, I.try_ n.toNat (fun _ => ⟨by rw [q1]; exact Q.beg, by rw [q3]; exact Q.wi, hps, fun _ => by rw [q1]; exact Q.ask e2, fun e => by omega⟩)⟩
  · exact ⟨g, Ghost.Le.refl g, rfl, rfl, I⟩
theorem mail_other {g : Ghost} {vs : List Vt} {m : Ml} (h : m.k = 5) : MailOk g vs m := ⟨fun e => by omega, fun e => by omega, fun e => by omega, fun e => by omega⟩
theorem mem_snoc {l : List Ml} {x m : Ml} {Q : Ml → Prop} (h : m ∈ l ++ [x]) (hx : Q x) : m ∈ l ∨ Q m := by
  rcases List.mem_append.1 h with h | h
  · exact .inl h
  · simp at h; subst h; exact .inr hx
theorem Inv.comes {g : Ghost} {w : Wd} (I : Inv g w) (h : May0 w) {m : Ml} (hm : MayM m) (ho : MailOk g w.vs m) : ∃ g', g.Le g' ∧ g'.Wi = g.Wi ∧ (∀ x k b s, g'.P x k b s → g.P x k b s ∨ (x = m.t ∧ k = m.b ∧ (getV w m.t).p ≤ m.b)) ∧ Inv g' (comes w m) := by
  obtain ⟨_, hf, ht, _, _, hb, hp, hs⟩ := hm
  have hv := getV_at h.vl ht
  have href : ∃ g', g.Le g' ∧ g'.Wi = g.Wi ∧ (∀ x k b s, g'.P x k b s → g.P x k b s ∨ (x = m.t ∧ k = m.b ∧ (getV w m.t).p ≤ m.b)) ∧ Inv g' ⟨w.ms, w.vs, w.ts, w.ml ++ [DC.mk m.t m.f 5 m.b (getV w m.t).p .empty], w.ch⟩ :=
    ⟨g, Ghost.Le.refl g, rfl, fun _ _ _ _ h => .inl h, I.mail (fun x hx => mem_snoc hx (mail_other rfl))⟩
  unfold DC.comes
  split
  · rename_i k1
    split
    · rename_i hle
      have I1 := I.promise ht hv hle (begun_set (ho.m1 k1) hv hle)
      exact ⟨_, le_addP g _ _ _ _, rfl, fun x k b s hh => hh.imp id (fun hh => ⟨hh.1, hh.2.1, hle⟩), I1.mail (fun x hx => mem_snoc hx ⟨fun e => absurd e (show ¬ (2 : Int) = 1 by decide), fun _ => .inr ⟨rfl, rfl, rfl, rfl⟩, fun e => absurd e (show ¬ (2 : Int) = 3 by decide), fun e => absurd e (show ¬ (2 : Int) = 4 by decide)⟩)⟩
    · exact href
  · split
    · rename_i k3
      split
      · rename_i hle
        have I1 := I.accept ht hv hle (vote_le h ht hb hle) (ho.m3 k3)
        exact ⟨_, le_addV g _ _ _, rfl, fun _ _ _ _ h => .inl h, I1.mail (fun x hx => mem_snoc hx ⟨fun e => absurd e (show ¬ (4 : Int) = 1 by decide), fun e => absurd e (show ¬ (4 : Int) = 2 by decide), fun e => absurd e (show ¬ (4 : Int) = 3 by decide), fun _ => ⟨m.v, .inr ⟨rfl, rfl, rfl⟩⟩⟩)⟩
      · exact href
    · split
      · rename_i k2
        obtain ⟨g', l1, l2, l4, l3⟩ := I.takes h (n := m.t) (k := m.b) (p := ⟨m.f, m.p, m.v⟩) ht (ho.m2 k2)
        exact ⟨g', l1, l2, fun _ _ _ _ h => .inl (by rw [l4] at h; exact h), l3⟩
      · split
        · rename_i k4
          split
          · rename_i he
            obtain ⟨e1, e2, e3, e4⟩ := AM.errA_zero he
            have hmt := h.try_ ht
            have Q := I.at_ _ _ (getT_at h.tl ht) (by omega)
            have hbm : (getT w m.t).ba % 8 = m.t ∧ (getT w m.t).ms = w.ms := by
              rcases hmt.2 with h0 | h0
              · omega
              · exact h0
            have hT : Tell w.ms m.t (getT w m.t) := ⟨hmt.1, e2, hbm.1, hbm.2⟩
            obtain ⟨q1, q2, q3, q4, q5, q6⟩ := hT.acc he
            obtain ⟨told, hall⟩ := Q.told e2
            obtain ⟨s, hVs⟩ := ho.m4 k4
            have hse : s = (getT w m.t).va := by
              have := I.tv _ _ _ hVs
              rw [e3] at this
              exact I.t1 _ _ _ this told
            rw [hse, e3] at hVs
            have hac2 : ∀ x ∈ (AM.acc (getT w m.t) m.b m.f).ac, g.V x (AM.acc (getT w m.t) m.b m.f).ba (AM.acc (getT w m.t) m.b m.f).va := fun x hx => by
              rw [q4] at hx
              rw [q2, q3]
              rcases (AM.mem_addIs _ _ _).1 hx with rfl | hx
              · exact hVs
              · exact hall x hx
            have I1 := I.try_ m.t.toNat (t := AM.acc (getT w m.t) m.b m.f) (fun _ => ⟨by rw [q3]; exact Q.beg, by rw [q6]; exact Q.wi, fun p hp => by rw [q5] at hp; rw [q3]; exact Q.ps p hp, fun e => by have := q1.ph; omega, fun _ => ⟨by rw [q2, q3]; exact told, hac2⟩⟩)
            exact ⟨g, Ghost.Le.refl g, rfl, fun _ _ _ _ h => .inl h, I1.choose (found_ok q1 hac2)⟩
          · exact ⟨g, Ghost.Le.refl g, rfl, fun _ _ _ _ h => .inl h, I⟩
        · exact ⟨g, Ghost.Le.refl g, rfl, fun _ _ _ _ h => .inl h, I⟩
theorem Inv.begins {g : Ghost} {w : Wd} (I : Inv g w) (h : May0 w) {n : Int} {s : ByteArray} (hn : isNode n) (hr : BM.rnd (getV w n).p n ≤ 1048576) (hs : s.size ≤ 1024) : ∃ g', g.Le g' ∧ (∀ x, g'.Wi x → g.Wi x ∨ x = s) ∧ (∀ x k b s', g'.P x k b s' → g.P x k b s' ∨ (x = n ∧ k = nextB (getV w n).p n)) ∧ Inv g' (begins w n s) := by
  have hv := getV_at h.vl hn
  have hvm := h.vote hn
  obtain ⟨g1, g2, g3⟩ := next_gt hvm.1 hn
  have hnn := node_nat hn
  have hbeg : Begun (w.vs.set n.toNat ⟨nextB (getV w n).p n, (getV w n).b, (getV w n).v⟩) (nextB (getV w n).p n) := by
    intro i x hx hi
    rcases set_get hx with ⟨_, rfl⟩ | ⟨hne, _⟩
    · exact Int.le_refl _
    · omega
  have I1 := (I.wish s).promise hn hv (Int.le_of_lt g1) hbeg
  have I2 := I1.try_ n.toNat (t := AM.start w.ms (nextB (getV w n).p n) s) (fun _ => ⟨hbeg, .inr rfl, (fun p hp => by cases hp), (fun _ s' hs' => by
    have := I.tb (nextB (getV w n).p n) s' hs' n.toNat (getV w n) hv (by rw [hnn.1]; exact g2)
    omega), fun e => absurd e (show ¬ (2 : Int) ≤ 1 by decide)⟩)
  have I3 := I2.mail (l := w.ml ++ others w.ms (DC.mk n 0 1 (nextB (getV w n).p n) 0 .empty)) (fun m hm => by
    rcases List.mem_append.1 hm with hm | hm
    · exact .inl hm
    · obtain ⟨y, _, _, rfl⟩ := mem_others hm
      exact .inr ⟨fun _ => hbeg, fun e => absurd e (show ¬ (1 : Int) = 2 by decide), fun e => absurd e (show ¬ (1 : Int) = 3 by decide), fun e => absurd e (show ¬ (1 : Int) = 4 by decide)⟩)
  obtain ⟨g', l1, l2, l4, l3⟩ := Inv.takes (w := begin1 w n s) I3 (may_begin1 h hn hr hs) (n := n) (k := nextB (getV w n).p n) (p := ⟨n, (getV w n).b, (getV w n).v⟩) hn (.inr ⟨rfl, rfl, rfl, rfl⟩)
  have hle : g.Le (Ghost.addP ⟨g.T, g.V, g.P, fun x => g.Wi x ∨ x = s⟩ n (nextB (getV w n).p n) (getV w n).b (getV w n).v) := ⟨fun _ _ h => h, fun _ _ _ h => h, fun _ _ _ _ h => .inl h, fun _ h => .inl h⟩
  refine ⟨g', hle.trans l1, fun x hx => ?_, fun x k b s' hx => ?_, l3⟩
  · rw [l2] at hx
    exact hx
  · rw [l4] at hx
    exact hx.imp id (fun hh => ⟨hh.1, hh.2.1⟩)
theorem Inv.aft {g : Ghost} {w : Wd} {m : Mv} (I : Inv g w) (h : May0 w) (hp : pre w m = 0) : ∃ g', g.Le g' ∧ (∀ x, g'.Wi x → g.Wi x ∨ (m.k = 1 ∧ x = m.v)) ∧ Inv g' (aft w m) := by
  obtain ⟨h1, h2, h3, h4⟩ := pre_zero hp
  unfold DC.aft
  split
  · rename_i e
    obtain ⟨g', l1, l2, _, l3⟩ := I.begins h (h2 (.inl e)) (h3 e).2 (h3 e).1
    exact ⟨g', l1, fun x hx => (l2 x hx).imp id fun hh => ⟨e, hh⟩, l3⟩
  · split
    · exact ⟨g, Ghost.Le.refl g, fun x hx => .inl hx, I.try_ _ (fun e => absurd rfl e)⟩
    · have Icut : Inv g (gone w m.at_.toNat) := I.mail (fun x hx => .inl (List.mem_of_mem_eraseIdx hx))
      split
      · rename_i e
        obtain ⟨k1, k2⟩ := h4 (.inl e)
        have hmem := (mail_at k1 k2).2
        obtain ⟨g', l1, l2, _, l3⟩ := Icut.comes (h.cutM _) (h.mm _ hmem) (I.mo _ hmem)
        exact ⟨g', l1, fun x hx => .inl (by rw [l2] at hx; exact hx), l3⟩
      · split
        · rename_i e
          obtain ⟨k1, k2⟩ := h4 (.inr (.inl e))
          have hmem := (mail_at k1 k2).2
          obtain ⟨g', l1, l2, _, l3⟩ := I.comes h (h.mm _ hmem) (I.mo _ hmem)
          exact ⟨g', l1, fun x hx => .inl (by rw [l2] at hx; exact hx), l3⟩
        · exact ⟨g, Ghost.Le.refl g, fun x hx => .inl hx, Icut⟩
def none : Ghost := ⟨fun _ _ => False, fun _ _ _ => False, fun _ _ _ _ => False, fun _ => False⟩
theorem inv_start (ms : List Int) : Inv none (start ms) :=
  ⟨fun _ _ _ h => h.elim, fun _ _ h => h.elim, fun _ _ h => h.elim, fun _ _ h => h.elim, fun _ _ _ h => h.elim, fun _ _ _ _ h => h.elim, fun _ _ _ _ h => h.elim,
   fun i v hv => by
    have := List.eq_of_mem_replicate (List.mem_of_getElem? hv)
    subst this
    exact ⟨fun _ _ h => h.elim, fun h => absurd rfl h⟩,
   fun i v hv k b s h => h.elim, fun i t ht h0 => by
    have := List.eq_of_mem_replicate (List.mem_of_getElem? ht)
    subst this
    exact absurd rfl h0, (fun m hm => by cases hm), (fun c hc => by cases hc)⟩
theorem inv_run : ∀ (l : List Mv) (g : Ghost) (w : Wd), Inv g w → May w → ∃ g', g.Le g' ∧ (∀ x, g'.Wi x → g.Wi x ∨ ∃ m ∈ l, m.k = 1 ∧ m.v = x) ∧ Inv g' (runF w l) ∧ May (runF w l)
  | [], g, w, I, h => ⟨g, Ghost.Le.refl g, fun x hx => .inl hx, I, h⟩
  | m :: l, g, w, I, h => by
    unfold runF
    by_cases he : errD w m = 0
    · rw [if_pos he]
      obtain ⟨g1, l1, l2, l3⟩ := I.aft h.zero (errD_zero he).1
      obtain ⟨g2, k1, k2, k3, k4⟩ := inv_run l g1 _ l3 (may_step h he)
      refine ⟨g2, l1.trans k1, fun x hx => ?_, k3, k4⟩
      rcases k2 x hx with hx | ⟨m', hm', e⟩
      · rcases l2 x hx with hx | ⟨e1, e2⟩
        · exact .inl hx
        · exact .inr ⟨m, List.mem_cons_self .., e1, e2.symm⟩
      · exact .inr ⟨m', List.mem_cons_of_mem _ hm', e⟩
    · rw [if_neg he]
      obtain ⟨g2, k1, k2, k3, k4⟩ := inv_run l g w I h
      refine ⟨g2, k1, fun x hx => ?_, k3, k4⟩
      rcases k2 x hx with hx | ⟨m', hm', e⟩
      · exact .inl hx
      · exact .inr ⟨m', List.mem_cons_of_mem _ hm', e⟩
/-- the stage's theorem: all that is found chosen is one value, and it was somebody's wish -/
theorem decree_one {ms : List Int} (h : QM.may ms = true) (l : List Mv) : (∀ c ∈ (runF (start ms) l).ch, ∀ d ∈ (runF (start ms) l).ch, c.v = d.v) ∧ (∀ c ∈ (runF (start ms) l).ch, ∃ m ∈ l, m.k = 1 ∧ m.v = c.v) ∧ May (runF (start ms) l) := by
  obtain ⟨g, _, h2, I, hm⟩ := inv_run l none (start ms) (inv_start ms) (may_begin h)
  refine ⟨fun c hc d hd => one_value I hm.zero hc hd, fun c hc => ?_, hm⟩
  rcases h2 _ (chosen_wish I hm.zero hc) with h | h
  · exact h.elim
  · exact h
end Go.Proofs.Ytiiobafcgdelmaa.DC
