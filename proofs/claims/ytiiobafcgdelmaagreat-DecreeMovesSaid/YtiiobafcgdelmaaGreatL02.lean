/- Contracts of functions of towncrier, layers 5 to 9, and of the document's own ones, part 2; each as its theorem says. -/
import Derived.Test.YtiiobafcgdelmaaGreatL01
set_option linter.unusedVariables false
set_option linter.unusedSimpArgs false
namespace Go.Proofs.YtiiobafcgdelmaaGreat.AM
structure Pr where
 n : Int
 b : Int
 v : ByteArray
 deriving DecidableEq
structure At where
 ph : Int
 ba : Int
 ms : List Int
 wi : ByteArray
 va : ByteArray
 ps : List Pr
 ac : List Int
 deriving DecidableEq
def zero : At := ⟨0, 0, [], .empty, .empty, [], []⟩
instance (b : Int) : Decidable (BM.good b) := by unfold BM.good; infer_instance
def okP (b : Int) (p : Pr) : Bool := if p.b = 0 then decide (p.v = .empty) else decide (BM.good p.b) && (decide (p.b < b) && decide (p.v.size ≤ 1024))
def bestF : Int → ByteArray → List Pr → ByteArray
 | _, s, [] => s
 | m, s, p :: l => if m < p.b then bestF p.b p.v l else bestF m s l
def best (l : List Pr) (w : ByteArray) : ByteArray := bestF 0 w l
def nodes (l : List Pr) : List Int := l.map (·.n)
theorem nodes_length (l : List Pr) : (nodes l).length = l.length := by simp [nodes]
def most (ms ns : List Int) : Bool := decide (ms.length / 2 + 1 ≤ QM.cnt ms ns)
def some (ms ns : List Int) : Bool := ns.isEmpty || (QM.may ns && QM.within ns ms)
def okB (ms : List Int) (ba : Int) (wi : ByteArray) : Bool := QM.may ms && (decide (BM.good ba) && decide (wi.size ≤ 1024))
def okL (a : At) : Bool := okB a.ms a.ba a.wi && (a.ps.all (okP a.ba) && (some a.ms (nodes a.ps) && some a.ms a.ac))
def may (a : At) : Bool :=
 if a.ph = 0 then decide (a = zero)
 else decide (1 ≤ a.ph ∧ a.ph ≤ 3) && (okL a &&
  if a.ph = 1 then !most a.ms (nodes a.ps) && (decide (a.va = .empty) && a.ac.isEmpty)
  else most a.ms (nodes a.ps) && (decide (a.va = best a.ps a.wi) && (most a.ms a.ac == decide (a.ph = 3))))
def onward (a : At) : At :=
 if a.ph = 1 then
  if most a.ms (nodes a.ps) then ⟨if most a.ms a.ac then 3 else 2, a.ba, a.ms, a.wi, best a.ps a.wi, a.ps, a.ac⟩ else a
 else if a.ph = 2 then
  if most a.ms a.ac then ⟨3, a.ba, a.ms, a.wi, a.va, a.ps, a.ac⟩ else a
 else a
def again (a : At) : At := onward ⟨1, a.ba, a.ms, a.wi, .empty, a.ps, a.ac⟩
def begun (a : At) : Bool := okL a && ((!(decide ((again a).ph = 1) && !a.ac.isEmpty)) && (decide (a.ph = (again a).ph) && decide (a.va = (again a).va)))
def insP (l : List Pr) (p : Pr) : List Pr := l.takeWhile (fun q => decide (q.n < p.n)) ++ p :: l.dropWhile (fun q => decide (q.n < p.n))
def insI (l : List Int) (x : Int) : List Int := l.takeWhile (fun y => decide (y < x)) ++ x :: l.dropWhile (fun y => decide (y < x))
def addP (a : At) (p : Pr) : At := ⟨a.ph, a.ba, a.ms, a.wi, a.va, if QM.has (nodes a.ps) p.n then a.ps else insP a.ps p, a.ac⟩
def addA (a : At) (n : Int) : At := ⟨a.ph, a.ba, a.ms, a.wi, a.va, a.ps, if QM.has a.ac n then a.ac else insI a.ac n⟩
def errP (a : At) (b : Int) (p : Pr) : Int := if may a = false then 8 else if ¬ (a.ph = 1 ∧ b = a.ba ∧ QM.has a.ms p.n = true) then 6 else if okP b p = false then 8 else 0
def errA (a : At) (b n : Int) : Int := if may a = false then 8 else if ¬ (2 ≤ a.ph ∧ b = a.ba ∧ QM.has a.ms n = true) then 6 else 0
def prom (a : At) (b : Int) (p : Pr) : At := if errP a b p = 0 then onward (addP a p) else zero
def acc (a : At) (b n : Int) : At := if errA a b n = 0 then onward (addA a n) else zero
def BegIs (ms : List Int) (ba : Int) (wi : ByteArray) (y : Int) : Prop :=
 (QM.ChkIs ms y ∧ y ≠ 0) ∨ (QM.ChkIs ms 0 ∧ ¬ BM.good ba ∧ y = 50) ∨ (QM.ChkIs ms 0 ∧ BM.good ba ∧ 1024 < wi.size ∧ y = 3) ∨ (QM.ChkIs ms 0 ∧ BM.good ba ∧ wi.size ≤ 1024 ∧ y = 0)
def start (ms : List Int) (ba : Int) (wi : ByteArray) : At := ⟨1, ba, ms, wi, .empty, [], []⟩
theorem begIs_ex (ms : List Int) (ba : Int) (wi : ByteArray) : ∃ y, BegIs ms ba wi y := by
 obtain ⟨y, h⟩ := QM.chkIs_ex ms
 by_cases h0 : y = 0
 ·subst h0
  by_cases h1 : BM.good ba
  ·by_cases h2 : wi.size ≤ 1024
   ·exact ⟨_, .inr (.inr (.inr ⟨h, h1, h2, rfl⟩))⟩
   ·exact ⟨_, .inr (.inr (.inl ⟨h, h1, by omega, rfl⟩))⟩
  ·exact ⟨_, .inr (.inl ⟨h, h1, rfl⟩)⟩
 ·exact ⟨_, .inl ⟨h, h0⟩⟩
theorem chk_may {ms : List Int} : QM.ChkIs ms 0 ↔ QM.may ms = true := by
 constructor
 ·intro h
  rcases QM.chkIs_cases h with ⟨_, h⟩ | ⟨_, h⟩
  ·exact h
  ·omega
 ·exact fun h => .inr (.inr ⟨h, rfl⟩)
theorem begIs_zero {ms : List Int} {ba : Int} {wi : ByteArray} : BegIs ms ba wi 0 ↔ okB ms ba wi = true := by
 unfold okB
 simp only [Bool.and_eq_true, decide_eq_true_eq]
 constructor
 ·rintro (⟨_, h⟩ | ⟨_, _, h⟩ | ⟨_, _, _, h⟩ | ⟨h1, h2, h3, _⟩)
  ·exact absurd rfl h
  ·cases h
  ·cases h
  ·exact ⟨chk_may.1 h1, h2, h3⟩
 ·rintro ⟨h1, h2, h3⟩
  exact .inr (.inr (.inr ⟨chk_may.2 h1, h2, h3, rfl⟩))
theorem begIs_eq {ms : List Int} {ba : Int} {wi : ByteArray} {y z : Int} (h : BegIs ms ba wi y) (k : BegIs ms ba wi z) : y = z := by
 rcases h with ⟨h, h0⟩ | ⟨h, h1, rfl⟩ | ⟨h, h1, h2, rfl⟩ | ⟨h, h1, h2, rfl⟩ <;> rcases k with ⟨k, k0⟩ | ⟨k, k1, rfl⟩ | ⟨k, k1, k2, rfl⟩ | ⟨k, k1, k2, rfl⟩ <;>
  first | rfl | exact QM.chkIs_eq h k | (exact absurd (QM.chkIs_eq h k) (by omega)) | (exact absurd (QM.chkIs_eq k h) (by omega)) | contradiction | omega
theorem rise_len : ∀ {p : Int} {l : List Int}, -1 ≤ p → QM.rise p l = true → (l.length : Int) ≤ 5 - p ∨ l = []
 | p, [], _, _ => .inr rfl
 | p, x :: l, hp, h => by
  simp only [QM.rise, Bool.and_eq_true, decide_eq_true_eq] at h
  rcases rise_len (p := x) (by omega) h.2.2 with h1 | h1
  ·left; rw [List.length_cons]; omega
  ·subst h1; left; simp; omega
theorem rise_le {l : List Int} (h : QM.rise (-1) l = true) : l.length ≤ 6 := by
 rcases rise_len (by omega) h with h1 | h1
 ·omega
 ·subst h1; simp
def adj : List Int → Bool
 | [] => true
 | [_] => true
 | x :: y :: l => decide (x < y) && adj (y :: l)
theorem rise_adj : ∀ {p : Int} {l : List Int}, (∀ x ∈ l, -1 < x ∧ x < 6) → adj l = true → (∀ x ∈ l.head?, p < x) → QM.rise p l = true
 | p, [], _, _, _ => rfl
 | p, [x], h, _, hp => by
  have := h x (by simp); have := hp x (by simp)
  simp [QM.rise]; omega
 | p, x :: y :: l, h, ha, hp => by
  simp only [adj, Bool.and_eq_true, decide_eq_true_eq] at ha
  have h1 := h x (by simp); have h2 := hp x (by simp)
  have ih := rise_adj (p := x) (l := y :: l) (fun z hz => h z (List.mem_cons_of_mem _ hz)) ha.2 (fun z hz => by simp at hz; omega)
  simp only [QM.rise, Bool.and_eq_true, decide_eq_true_eq] at ih ⊢
  exact ⟨h2, h1.2, ih⟩
theorem adj_rise : ∀ {p : Int} {l : List Int}, QM.rise p l = true → adj l = true
 | p, [], _ => rfl
 | p, [x], _ => rfl
 | p, x :: y :: l, h => by
  simp only [QM.rise, Bool.and_eq_true, decide_eq_true_eq] at h
  have := adj_rise (p := x) (l := y :: l) (by simp only [QM.rise, Bool.and_eq_true, decide_eq_true_eq]; exact h.2.2)
  simp only [adj, Bool.and_eq_true, decide_eq_true_eq]
  exact ⟨h.2.2.1, this⟩
theorem within_iff {ns ms : List Int} : QM.within ns ms = true ↔ ∀ x ∈ ns, x ∈ ms := by simp [QM.within, QM.has]
theorem may_mem {ms : List Int} (h : QM.may ms = true) : ∀ x ∈ ms, -1 < x ∧ x < 6 := QM.rise_lt (QM.may_len h).2.2
theorem some_adj {ms ns : List Int} (h : QM.may ms = true) : (adj ns && QM.within ns ms) = some ms ns := by
 rcases ns with _ | ⟨x, l⟩
 ·simp [adj, QM.within, some]
 ·rw [Bool.eq_iff_iff]
  simp only [some, List.isEmpty_cons, Bool.false_or, Bool.and_eq_true]
  constructor
  ·rintro ⟨h1, h2⟩
   have hm := within_iff.1 h2
   have hr : QM.rise (-1) (x :: l) = true := rise_adj (fun y hy => may_mem h y (hm y hy)) h1 (fun z hz => by simp at hz; have := may_mem h z (hm z (by rw [← hz]; simp)); omega)
   refine ⟨?_, h2⟩
   unfold QM.may
   simp only [Bool.and_eq_true, decide_eq_true_eq]
   exact ⟨by simp, rise_le hr, hr⟩
  ·rintro ⟨h1, h2⟩
   exact ⟨adj_rise (QM.may_len h1).2.2, h2⟩
theorem some_len {ms ns : List Int} (h : some ms ns = true) : ns.length ≤ 6 := by
 rcases ns with _ | ⟨x, l⟩
 ·simp
 ·simp only [some, List.isEmpty_cons, Bool.false_or, Bool.and_eq_true] at h
  exact (QM.may_len h.1).2.1
theorem some_rise {ms ns : List Int} (h : some ms ns = true) : QM.rise (-1) ns = true := by
 rcases ns with _ | ⟨x, l⟩
 ·rfl
 ·simp only [some, List.isEmpty_cons, Bool.false_or, Bool.and_eq_true] at h
  exact (QM.may_len h.1).2.2
theorem some_within {ms ns : List Int} (h : some ms ns = true) : ∀ x ∈ ns, x ∈ ms := by
 rcases ns with _ | ⟨x, l⟩
 ·simp
 ·simp only [some, List.isEmpty_cons, Bool.false_or, Bool.and_eq_true] at h
  exact within_iff.1 h.2
theorem some_grp {ms ns : List Int} {y : Int} (h : QM.may ms = true) (hn : ns ≠ []) (hy : QM.GrpIs ms ns y) : (y == 0) = some ms ns := by
 rcases ns with _ | ⟨x, l⟩
 ·exact absurd rfl hn
 ·simp only [some, List.isEmpty_cons, Bool.false_or]
  rcases hy with ⟨h1, h2⟩ | ⟨_, h1, h2⟩ | ⟨_, h1, h2⟩
  ·exact absurd (QM.chkIs_eq h1 (chk_may.2 h)) h2
  ·have : QM.may (x :: l) = false := by
    rcases hm : QM.may (x :: l) with _ | _
    ·rfl
    ·exact absurd (QM.chkIs_eq h1 (chk_may.2 hm)) h2
   rw [this]; simpa using h2
  ·rw [chk_may.1 h1, h2]
   rcases QM.within (x :: l) ms with _ | _ <;> rfl
theorem most_none {ms : List Int} : most ms [] = false := by unfold most; rw [QM.cnt_none]; simp
theorem most_is {ms ns : List Int} {b : Bool} {y : Int} (hm : QM.may ms = true) (hl : ns.length ≤ 1000) (h : QM.MostIs ms ns b y) : b = most ms ns ∧ y = 0 := by
 rcases h with ⟨h1, h2, _⟩ | ⟨_, h2, _⟩ | ⟨_, _, h2, h3⟩
 ·exact absurd (QM.chkIs_eq h1 (chk_may.2 hm)) h2
 ·omega
 ·exact ⟨h2, h3⟩
theorem okL_may {a : At} (h : okL a = true) : QM.may a.ms = true := by
 unfold okL okB at h
 simp only [Bool.and_eq_true] at h
 exact h.1.1
theorem begun_may (a : At) : (decide (a = zero) || begun a) = may a := by
 unfold may
 by_cases h0 : a.ph = 0
 ·rw [if_pos h0]
  have : begun a = false := by
   unfold begun
   have : ¬ a.ph = (again a).ph := by
    unfold again onward
    rw [h0]
    simp
    split <;> simp
    split <;> simp
   simp [this]
  rw [this, Bool.or_false]
 ·rw [if_neg h0]
  have hz : ¬ a = zero := by intro h; rw [h] at h0; exact h0 rfl
  rw [show decide (a = zero) = false by simpa using hz, Bool.false_or]
  unfold begun
  rcases hl : okL a with _ | _
  ·simp
  ·have hm := okL_may hl
   unfold again onward
   obtain ⟨ph, ba, ms, wi, va, ps, ac⟩ := a
   simp only at h0 ⊢
   rcases h1 : most ms (nodes ps) with _ | _
   ·rcases ac with _ | ⟨x, l⟩
    ·by_cases e1 : ph = 1
     ·subst e1; simp
     ·simp [e1]
    ·by_cases e1 : ph = 1
     ·subst e1; simp
     ·simp [e1]
   ·rcases h2 : most ms ac with _ | _
    ·by_cases e1 : ph = 1
     ·subst e1; simp
     ·by_cases e2 : ph = 2
      ·subst e2; simp
      ·by_cases e3 : ph = 3
       ·subst e3; simp
       ·have e4 : ¬ (1 ≤ ph ∧ ph ≤ 3) := by omega
        simp [e1, e2, e4]
    ·by_cases e1 : ph = 1
     ·subst e1; simp
     ·by_cases e2 : ph = 2
      ·subst e2; simp
      ·by_cases e3 : ph = 3
       ·subst e3; simp
       ·have e4 : ¬ (1 ≤ ph ∧ ph ≤ 3) := by omega
        simp [e1, e3, e4]
end Go.Proofs.YtiiobafcgdelmaaGreat.AM
namespace Go.Proofs.YtiiobafcgdelmaaGreat
open Go.RowKit
def pp (l : List AM.Pr) : List Value := l.flatMap fun p => [Value.int .i64 p.n, Value.int .i64 p.b, Value.string p.v]
theorem pp_cons (p : AM.Pr) (l : List AM.Pr) : pp (p :: l) = .int .i64 p.n :: .int .i64 p.b :: .string p.v :: pp l := rfl
theorem pp_append (l r : List AM.Pr) : pp (l ++ r) = pp l ++ pp r := by simp [pp]
theorem pp_length (l : List AM.Pr) : (pp l).length = l.length * 3 := by
 induction l with
 | nil => rfl
 | cons p l ih => rw [pp_cons, List.length_cons, List.length_cons, List.length_cons, ih, List.length_cons]; omega
theorem pp_get : ∀ (l : List AM.Pr) (k : Nat) (p : AM.Pr), l[k]? = some p → (pp l)[k * 3]? = some (.int .i64 p.n) ∧ (pp l)[k * 3 + 1]? = some (.int .i64 p.b) ∧ (pp l)[k * 3 + 2]? = some (.string p.v)
 | [], k, p, h => by simp at h
 | q :: l, 0, p, h => by simp at h; subst h; exact ⟨rfl, rfl, rfl⟩
 | q :: l, k + 1, p, h => by
  rw [pp_cons, show (k + 1) * 3 + 1 = k * 3 + 1 + 1 + 1 + 1 by omega, show (k + 1) * 3 + 2 = k * 3 + 2 + 1 + 1 + 1 by omega, show (k + 1) * 3 = k * 3 + 1 + 1 + 1 by omega]
  simp only [List.getElem?_cons_succ]
  exact pp_get l k p (by simpa using h)
theorem pp_take (l : List AM.Pr) (k : Nat) : (pp l).take (k * 3) = pp (l.take k) := by
 induction l generalizing k with
 | nil => simp [pp]
 | cons p l ih =>
  cases k with
  | zero => simp [pp]
  | succ k => rw [pp_cons, show (k + 1) * 3 = k * 3 + 1 + 1 + 1 by omega, List.take_succ_cons, List.take_succ_cons, List.take_succ_cons, ih, List.take_succ_cons, pp_cons]
theorem pp_drop (l : List AM.Pr) (k : Nat) : (pp l).drop (k * 3) = pp (l.drop k) := by
 induction l generalizing k with
 | nil => simp [pp]
 | cons p l ih =>
  cases k with
  | zero => simp
  | succ k => rw [pp_cons, show (k + 1) * 3 = k * 3 + 1 + 1 + 1 by omega, List.drop_succ_cons, List.drop_succ_cons, List.drop_succ_cons, ih, List.drop_succ_cons]
theorem pp_one (l : List AM.Pr) : ∀ u ∈ pp l, u.oneCell' = true := by
 intro u hu
 simp only [pp, List.mem_flatMap] at hu
 obtain ⟨p, hp, hu⟩ := hu
 simp at hu
 rcases hu with rfl | rfl | rfl <;> rfl
def RdP (w : World) (B : Option Addr) (m : Nat) (ps : List AM.Pr) : Prop :=
 ps.length = m ∧ (0 < m → ∃ ad, B = some ad ∧ ad.block < w.heap.size ∧ ∀ j u, (pp ps)[j]? = some u → w.cell? (ad.add j) = some u)
section
variable {w w' : World} {m : Nat} {B : Option Addr} {ps : List AM.Pr}
theorem RdP.nil : RdP w B 0 [] := ⟨rfl, fun h => absurd h (by omega)⟩
theorem RdP.below (h : RdP w B m ps) (hb : Below w.heap.size w w') : RdP w' B m ps :=
 ⟨h.1, fun hn => by
  obtain ⟨ad, e, hB, hc⟩ := h.2 hn
  exact ⟨ad, e, Nat.lt_of_lt_of_le hB hb.size, fun j u hu => (hb.cell (by rw [block_of_add]; exact hB)).trans (hc j u hu)⟩⟩
theorem RdP.drewN (h : RdP w B m ps) (k : Nat) : RdP (w.drewN k) B m ps := h
theorem RdP.of_own {base : Nat} {e : TypeId} {c : Nat} (h : w.ownsRow base e 3 (.slice B m c) m (pp ps)) : RdP w B m ps := by
 refine ⟨by have := h.1; rw [pp_length] at this; omega, fun hn => ?_⟩
 obtain ⟨g, cap, hv, _, hlt⟩ := h.form hn
 have hA : B = some ⟨g, 0, none⟩ := by injection hv
 subst hA
 exact ⟨_, rfl, hlt, h.cells (g := g) rfl⟩
theorem RdP.at_ {k : Nat} (h : RdP w B m ps) (hk : k < m) : ∃ bl o p, B = some ⟨bl, o, none⟩ ∧ bl < w.heap.size ∧ ps[k]? = some p ∧
  w.cell? ⟨bl, o + k * 3, none⟩ = some (.int .i64 p.n) ∧ w.cell? ⟨bl, o + k * 3 + 1, none⟩ = some (.int .i64 p.b) ∧ w.cell? ⟨bl, o + k * 3 + 2, none⟩ = some (.string p.v) := by
 obtain ⟨ad, e, hb, hc⟩ := h.2 (by omega)
 have hkp : k < ps.length := by rw [h.1]; exact hk
 have e1 := List.getElem?_eq_getElem hkp
 obtain ⟨g0, g1, g2⟩ := pp_get ps k _ e1
 have c0 := hc _ _ g0
 have c1 := hc _ _ g1
 have c2 := hc _ _ g2
 obtain ⟨bl, o, sp⟩ := ad
 have hsp : sp = none := by
  have := World.cell?_spot (hc _ _ (pp_get ps 0 _ (List.getElem?_eq_getElem (by omega))).1)
  simpa [Addr.add] using this
 subst hsp
 refine ⟨bl, o, ps[k], e, hb, e1, ?_, ?_, ?_⟩
 ·rw [← c0]; unfold Addr.add; split <;> simp_all
 ·rw [← c1]; simp [Addr.add, Nat.add_assoc]
 ·rw [← c2]; simp [Addr.add, Nat.add_assoc]
theorem RdP.front (h : RdP w B m ps) {k : Nat} (hk : k ≤ m) : RdP w B k (ps.take k) := by
 refine ⟨by rw [List.length_take, h.1]; exact Nat.min_eq_left hk, fun hn => ?_⟩
 obtain ⟨ad, e, hb, hcell⟩ := h.2 (by omega)
 refine ⟨ad, e, hb, fun j u hu => hcell j u ?_⟩
 rw [← pp_take, List.getElem?_take] at hu
 split at hu
 ·exact hu
 ·cases hu
theorem RdP.cut (h : RdP w B m ps) {k : Nat} (hk : k ≤ m) : RdP w (B.map (fun x => x.add (k * 3))) (m - k) (ps.drop k) := by
 refine ⟨by rw [List.length_drop, h.1], fun hn => ?_⟩
 obtain ⟨ad, rfl, hb, hcell⟩ := h.2 (by omega)
 refine ⟨ad.add (k * 3), rfl, by rw [block_of_add]; exact hb, fun j u hu => ?_⟩
 rw [add_of_add]
 refine hcell _ u ?_
 rw [← pp_drop, List.getElem?_drop] at hu
 exact hu
end
structure FitP (p : AM.Pr) : Prop where
 b1 : -9223372036854775808 ≤ p.b
 b2 : p.b ≤ 9223372036854775807
 v : p.v.size ≤ maxLen
structure Fit (a : AM.At) : Prop where
 p1 : 0 ≤ a.ph
 p2 : a.ph ≤ 255
 b1 : -9223372036854775808 ≤ a.ba
 b2 : a.ba ≤ 9223372036854775807
 wi : a.wi.size ≤ maxLen
 ms : a.ms.length ≤ 2000
 ps : a.ps.length ≤ 2000
 ac : a.ac.length ≤ 2000
 all : ∀ p ∈ a.ps, FitP p
theorem fit_zero : Fit AM.zero := ⟨by decide, by decide, by decide, by decide, by decide, by decide, by decide, by decide, fun p h => by cases h⟩
def AtIs (w : World) (v : Value) (a : AM.At) : Prop :=
 ∃ A n c B m d C k f, v = .agg #[.int .u8 a.ph, .int .i64 a.ba, .slice A n c, .string a.wi, .string a.va, .slice B m d, .slice C k f] ∧ Rd w A n (ic a.ms) ∧ RdP w B m a.ps ∧ Rd w C k (ic a.ac)
theorem AtIs.below {w w' : World} {v : Value} {a : AM.At} (h : AtIs w v a) (hb : Below w.heap.size w w') : AtIs w' v a := by
 obtain ⟨A, n, c, B, m, d, C, k, f, e, h1, h2, h3⟩ := h
 exact ⟨A, n, c, B, m, d, C, k, f, e, h1.below hb, h2.below hb, h3.below hb⟩
theorem AtIs.zero (w : World) : AtIs w (.agg #[.int .u8 0, .int .i64 0, .slice none 0 0, .string .empty, .string .empty, .slice none 0 0, .slice none 0 0]) AM.zero :=
 ⟨none, 0, 0, none, 0, 0, none, 0, 0, rfl, Rd.nil, RdP.nil, Rd.nil⟩
theorem own_below3 {w w' : World} {base s : Nat} {e : TypeId} {v : Value} {n : Nat} {xs : List Value} (h : w.ownsRow base e s v n xs) (hb : Below w.heap.size w w') : w'.ownsRow base e s v n xs := by
 refine ⟨h.1, ?_⟩
 rcases h.2 with h0 | ⟨g, cap, cur, hv, hbg, hg, hrest⟩
 ·exact .inl h0
 ·have hlt : g < w.heap.size := by
   rcases Nat.lt_or_ge g w.heap.size with hlt | hge
   ·exact hlt
   ·rw [Array.getElem?_eq_none hge] at hg; cases hg
  exact .inr ⟨g, cap, cur, hv, hbg, (hb.block g hlt).trans hg, hrest⟩
theorem own_base {w : World} {base base' s : Nat} {e : TypeId} {v : Value} {n : Nat} {xs : List Value} (h : w.ownsRow base e s v n xs) (hb : base' ≤ base) : w.ownsRow base' e s v n xs := by
 refine ⟨h.1, ?_⟩
 rcases h.2 with h0 | ⟨g, cap, cur, hv, hbg, hrest⟩
 ·exact .inl h0
 ·exact .inr ⟨g, cap, cur, hv, Nat.le_trans hb hbg, hrest⟩
theorem own_form {w : World} {base s : Nat} {e : TypeId} {v : Value} {n : Nat} {xs : List Value} (h : w.ownsRow base e s v n xs) :
  ∃ A c, v = .slice A n c ∧ n ≤ c ∧ c ≤ maxLen := by
 rcases h.2 with ⟨rfl, rfl⟩ | ⟨g, cap, cur, rfl, _, _, hnc, hcm, _⟩
 ·exact ⟨none, 0, rfl, Nat.le_refl _, Nat.zero_le _⟩
 ·exact ⟨_, cap, rfl, hnc, hcm⟩
def AtOwn (w : World) (base : Nat) (v : Value) (a : AM.At) : Prop :=
 ∃ x y z, v = .agg #[.int .u8 a.ph, .int .i64 a.ba, x, .string a.wi, .string a.va, y, z] ∧ w.ownsRow base 3 1 x a.ms.length (ic a.ms) ∧ w.ownsRow base 86 3 y a.ps.length (pp a.ps) ∧ w.ownsRow base 3 1 z a.ac.length (ic a.ac)
theorem AtOwn.is {w : World} {base : Nat} {v : Value} {a : AM.At} (h : AtOwn w base v a) : AtIs w v a := by
 obtain ⟨x, y, z, rfl, h1, h2, h3⟩ := h
 obtain ⟨A, c, rfl, _, _⟩ := own_form h1
 obtain ⟨B, d, rfl, _, _⟩ := own_form h2
 obtain ⟨C, f, rfl, _, _⟩ := own_form h3
 exact ⟨A, _, c, B, _, d, C, _, f, rfl, Rd.of_own h1, RdP.of_own h2, Rd.of_own h3⟩
theorem AtOwn.below {w w' : World} {base : Nat} {v : Value} {a : AM.At} (h : AtOwn w base v a) (hb : Below w.heap.size w w') : AtOwn w' base v a := by
 obtain ⟨x, y, z, e, h1, h2, h3⟩ := h
 exact ⟨x, y, z, e, own_below3 h1 hb, own_below3 h2 hb, own_below3 h3 hb⟩
theorem AtOwn.mono {w : World} {base base' : Nat} {v : Value} {a : AM.At} (h : AtOwn w base v a) (hb : base' ≤ base) : AtOwn w base' v a := by
 obtain ⟨x, y, z, e, h1, h2, h3⟩ := h
 exact ⟨x, y, z, e, own_base h1 hb, own_base h2 hb, own_base h3 hb⟩
theorem AtOwn.zero (w : World) (base : Nat) : AtOwn w base (.agg #[.int .u8 0, .int .i64 0, .slice none 0 0, .string .empty, .string .empty, .slice none 0 0, .slice none 0 0]) AM.zero :=
 ⟨_, _, _, rfl, World.ownsRow_nil _ _ _ _, World.ownsRow_nil _ _ _ _, World.ownsRow_nil _ _ _ _⟩
theorem Box.seven {w : World} {g : Nat} {t : TypeId} {a b c d e f i : Value} (h : Box w g t #[a, b, c, d, e, f, i]) :
  (w.cell? ⟨g, 0, none⟩ = some a ∧ w.cell? ⟨g, 1, none⟩ = some b ∧ w.cell? ⟨g, 2, none⟩ = some c ∧ w.cell? ⟨g, 3, none⟩ = some d ∧ w.cell? ⟨g, 4, none⟩ = some e ∧ w.cell? ⟨g, 5, none⟩ = some f ∧ w.cell? ⟨g, 6, none⟩ = some i) ∧
  (w.frozen? ⟨g, 0, none⟩ = false ∧ w.frozen? ⟨g, 1, none⟩ = false ∧ w.frozen? ⟨g, 2, none⟩ = false ∧ w.frozen? ⟨g, 3, none⟩ = false ∧ w.frozen? ⟨g, 4, none⟩ = false ∧ w.frozen? ⟨g, 5, none⟩ = false ∧ w.frozen? ⟨g, 6, none⟩ = false) :=
 ⟨⟨h.cell 0, h.cell 1, h.cell 2, h.cell 3, h.cell 4, h.cell 5, h.cell 6⟩, h.frozen 0, h.frozen 1, h.frozen 2, h.frozen 3, h.frozen 4, h.frozen 5, h.frozen 6⟩
def put7 (w : World) (g : Nat) (a b c d e f i : Value) : World :=
 ((((((w.setCell ⟨g, 0, none⟩ a).setCell ⟨g, 1, none⟩ b).setCell ⟨g, 2, none⟩ c).setCell ⟨g, 3, none⟩ d).setCell ⟨g, 4, none⟩ e).setCell ⟨g, 5, none⟩ f).setCell ⟨g, 6, none⟩ i
theorem below_put7 {B g : Nat} {u w : World} (h : Below B u w) (hg : B ≤ g) (a b c d e f i : Value) : Below B u (put7 w g a b c d e f i) :=
 ((((((h.setCell (p := ⟨g, 0, none⟩) hg a).setCell (p := ⟨g, 1, none⟩) hg b).setCell (p := ⟨g, 2, none⟩) hg c).setCell (p := ⟨g, 3, none⟩) hg d).setCell (p := ⟨g, 4, none⟩) hg e).setCell (p := ⟨g, 5, none⟩) hg f).setCell (p := ⟨g, 6, none⟩) hg i
theorem Box.put7 {w : World} {g : Nat} {t : TypeId} {a b c d e f i : Value} (h : Box w g t #[a, b, c, d, e, f, i]) (a' b' c' d' e' f' i' : Value) : Box (put7 w g a' b' c' d' e' f' i') g t #[a', b', c', d', e', f', i'] := by
 have := ((((((h.stored 0 a').stored 1 b').stored 2 c').stored 3 d').stored 4 e').stored 5 f').stored 6 i'
 simpa [Go.Proofs.YtiiobafcgdelmaaGreat.put7] using this
theorem Box.putFar7 {w : World} {g g' : Nat} {t : TypeId} {cs : Array Value} (h : Box w g t cs) (hg : g ≠ g') (a b c d e f i : Value) : Box (Go.Proofs.YtiiobafcgdelmaaGreat.put7 w g' a b c d e f i) g t cs :=
 ((((((h.far (p := ⟨g', 0, none⟩) hg a).far (p := ⟨g', 1, none⟩) hg b).far (p := ⟨g', 2, none⟩) hg c).far (p := ⟨g', 3, none⟩) hg d).far (p := ⟨g', 4, none⟩) hg e).far (p := ⟨g', 5, none⟩) hg f).far (p := ⟨g', 6, none⟩) hg i
theorem own_put7 {w : World} {base g s n : Nat} {e : TypeId} {v : Value} {xs : List Value} (h : w.ownsRow base e s v n xs) (hg : g < base) (a b c d p f i : Value) : (put7 w g a b c d p f i).ownsRow base e s v n xs :=
 ownsRow_setCell_below (ownsRow_setCell_below (ownsRow_setCell_below (ownsRow_setCell_below (ownsRow_setCell_below (ownsRow_setCell_below (ownsRow_setCell_below h (a := ⟨g, 0, none⟩) hg a) (a := ⟨g, 1, none⟩) hg b) (a := ⟨g, 2, none⟩) hg c) (a := ⟨g, 3, none⟩) hg d) (a := ⟨g, 4, none⟩) hg p) (a := ⟨g, 5, none⟩) hg f) (a := ⟨g, 6, none⟩) hg i
def fs (v : Value) : Array Value := match v with | .agg l => l | _ => #[]
theorem AtIs.fit_n {w : World} {A C : Option Addr} {B : Option Addr} {n m k : Nat} {a : AM.At} (h1 : Rd w A n (ic a.ms)) (h2 : RdP w B m a.ps) (h3 : Rd w C k (ic a.ac)) (F : Fit a) : n ≤ 2000 ∧ m ≤ 2000 ∧ k ≤ 2000 := by
 have e1 := h1.1; have e2 := h2.1; have e3 := h3.1
 rw [ic_length] at e1 e3
 have := F.ms; have := F.ps; have := F.ac
 omega
theorem AtOwn.form {w : World} {base : Nat} {v : Value} {a : AM.At} (h : AtOwn w base v a) :
  ∃ A c B d C f, v = .agg #[.int .u8 a.ph, .int .i64 a.ba, .slice A a.ms.length c, .string a.wi, .string a.va, .slice B a.ps.length d, .slice C a.ac.length f] := by
 obtain ⟨x, y, z, rfl, h1, h2, h3⟩ := h
 obtain ⟨A, c, rfl, _, _⟩ := own_form h1
 obtain ⟨B, d, rfl, _, _⟩ := own_form h2
 obtain ⟨C, f, rfl, _, _⟩ := own_form h3
 exact ⟨A, c, B, d, C, f, rfl⟩
theorem AtOwn.alloc {w : World} {base : Nat} {v : Value} {a : AM.At} (h : AtOwn w base v a) (o : Obj) : AtOwn (w.alloc o) base v a := h.below ((Below.refl _ _).alloc n! o)
theorem own_setother {w : World} {base s n g i : Nat} {e T : TypeId} {v : Value} {xs : List Value} {cs : Array Value} (h : w.ownsRow base e s v n xs) (hb : Box w g T cs) (he : T ≠ e) (u : Value) : (w.setCell ⟨g, i, none⟩ u).ownsRow base e s v n xs := by
 refine ⟨h.1, ?_⟩
 rcases h.2 with h0 | ⟨g', cap, cur, hv, hbg, hx, hrest⟩
 ·exact .inl h0
 ·refine .inr ⟨g', cap, cur, hv, hbg, Box.far (g := g') hx (p := ⟨g, i, none⟩) (fun e' => ?_) u, hrest⟩
  have e2 : g' = g := e'
  subst e2
  rw [Box] at hb
  rw [hx] at hb
  injection hb with hb
  injection hb with _ hb
  exact he hb.symm
def RdG (w : World) (s : Nat) (A : Option Addr) (m : Nat) (xs : List Value) : Prop :=
 xs.length = m * s ∧ (0 < m → ∃ ad, A = some ad ∧ ad.block < w.heap.size ∧ ∀ j u, xs[j]? = some u → w.cell? (ad.add j) = some u)
theorem Rd.g {w : World} {A : Option Addr} {m : Nat} {xs : List Value} (h : Rd w A m xs) : RdG w 1 A m xs := ⟨by rw [h.1]; omega, h.2⟩
theorem RdP.g {w : World} {A : Option Addr} {m : Nat} {xs : List AM.Pr} (h : RdP w A m xs) : RdG w 3 A m (pp xs) := ⟨by rw [pp_length, h.1], h.2⟩
theorem RdG.below {w w' : World} {s m : Nat} {A : Option Addr} {xs : List Value} (h : RdG w s A m xs) (hb : Below w.heap.size w w') : RdG w' s A m xs :=
 ⟨h.1, fun hn => by
  obtain ⟨ad, e, hB, hc⟩ := h.2 hn
  exact ⟨ad, e, Nat.lt_of_lt_of_le hB hb.size, fun j u hu => (hb.cell (by rw [block_of_add]; exact hB)).trans (hc j u hu)⟩⟩
theorem RdG.alloc {w : World} {s m : Nat} {A : Option Addr} {xs : List Value} (h : RdG w s A m xs) (o : Obj) : RdG (w.alloc o) s A m xs := h.below ((Below.refl _ _).alloc n! o)
theorem rdG_box {w : World} {g n s : Nat} {t : TypeId} {cs : Array Value} {xs : List Value} (h : Box w g t cs) (hx : cs.toList = xs) (hn : xs.length = n * s) : RdG w s (some ⟨g, 0, none⟩) n xs := by
 refine ⟨hn, fun _ => ⟨_, rfl, h.lt, fun j u hu => ?_⟩⟩
 have : (⟨g, 0, none⟩ : Addr).add j = ⟨g, j, none⟩ := by unfold Addr.add; split <;> simp_all
 rw [this, h.cell j, ← hu, ← hx]
 simp
theorem run_append_g {P : Program} (w : World) (base : Nat) (t ty e : TypeId) (i : TypeInfo) (z : Value) (s bytes : Nat) (ht : P.underlying t = some (.slice e)) (hi : P.info? e = some i) (hz : i.zero = some z)
  (hsize : i.size = s) (hby : i.bytes = bytes) (hzs : z.cells.size = s) (hsz : 0 < s)
  (v : Value) (n : Nat) (xs : List Value) (hown : w.ownsRow base e s v n xs)
  (A : Option Addr) (m c : Nat) (news : List Value) (hr : RdG w s A m news) (h1 : ∀ u ∈ news, u.oneCell' = true)
  (h63 : n + m ≤ maxLen) (hbytes : (n + m) * bytes ≤ 140737488355328) (hbase : base ≤ w.heap.size) :
  ∃ v' w', (Builtin.append_ #[t, t] ty #[v, .slice A m c]).run P w = .ok v' w' ∧ w'.ownsRow base e s v' (n + m) (xs ++ news) ∧ w.grownBy w' v.ownBlock ∧
   (v'.ownBlock = v.ownBlock ∨ v'.ownBlock = some w.heap.size) := by
 rcases A with _ | ad
 ·have hm : m = 0 := by
   rcases Nat.eq_zero_or_pos m with h0 | h0
   ·exact h0
   ·obtain ⟨ad, h, _⟩ := hr.2 h0; cases h
  subst hm
  have hn : news = [] := List.eq_nil_of_length_eq_zero (by rw [hr.1]; omega)
  subst hn
  refine ⟨v, w, ?_, by simpa using hown, World.grownBy.refl w _, .inl rfl⟩
  rcases hown.2 with ⟨rfl, rfl⟩ | ⟨g, cap, cur, rfl, _, _, hnc, _⟩
  ·simp [Builtin.append_, run_underlying ht, sizeOf, typeInfo, hi, Builtin.lenOf, Builtin.firstCells]
  ·simp [Builtin.append_, run_underlying ht, sizeOf, typeInfo, hi, Builtin.lenOf, Builtin.firstCells, hnc, storeCells]
 ·have hcells : ∀ j u, news[j]? = some u → w.cell? (ad.add j) = some u := by
   intro j u hu
   rcases Nat.eq_zero_or_pos m with h0 | h0
   ·subst h0
    have hn : news = [] := List.eq_nil_of_length_eq_zero (by rw [hr.1]; omega)
    subst hn
    simp at hu
   ·obtain ⟨ad', h, _, hc⟩ := hr.2 h0
    injection h with h
    subst h
    exact hc j u hu
  obtain ⟨v', w', hrun, h2, h3, _, h5⟩ := run_append_own_at (P := P) w base t ty e i z s bytes ht hi hz hsize hby hzs hsz v n xs hown ad m c news hr.1 hcells h1 h63 hbytes hbase
  exact ⟨v', w', hrun, h2, h3, h5⟩
theorem wpList_append_g {P : Program} (w : World) {ops : Array Oper} {rest : List Oper} {o : Oper} {a : Act} {Q : Exit → Act → World → Prop} (hgd : o.guard = none) (so x : Operand) (t : TypeId)
  (ho : o.op = .call { callee := .builtin .append, args := #[so, x], argTypes := #[t, t] })
  (base : Nat) (e : TypeId) (i : TypeInfo) (z : Value) (s bytes : Nat) (ht : P.underlying t = some (.slice e)) (hi : P.info? e = some i) (hz : i.zero = some z)
  (hsize : i.size = s) (hby : i.bytes = bytes) (hzs : z.cells.size = s) (hsz : 0 < s)
  (v : Value) (n : Nat) (xs : List Value) (hs : a.eval so = v) (hown : w.ownsRow base e s v n xs)
  (A : Option Addr) (m c : Nat) (news : List Value) (hx : a.eval x = .slice A m c) (hr : RdG w s A m news) (h1 : ∀ u ∈ news, u.oneCell' = true)
  (h63 : n + m ≤ maxLen) (hbytes : (n + m) * bytes ≤ 140737488355328) (hbase : base ≤ w.heap.size)
  (h : ∀ v' w', w'.ownsRow base e s v' (n + m) (xs ++ news) → w.grownBy w' v.ownBlock → (v'.ownBlock = v.ownBlock ∨ v'.ownBlock = some w.heap.size) → wpList P ops Q rest (a.put o.dst v') w') : wpList P ops Q (o :: rest) a w := by
 refine wpList_plain hgd fun K hK => ?_
 obtain ⟨v', w', hrun, h2, h3, h4⟩ := run_append_g (P := P) w base t o.type e i z s bytes ht hi hz hsize hby hzs hsz v n xs hown A m c news hr h1 h63 hbytes hbase
 unfold Oper.wp execOp
 simp only [ho, resolve, invoke, builtin, Sem.run_bind, Sem.run_pure, Result.andThen_ok, List.map_toArray, List.map_cons, List.map_nil, hs, hx, hrun]
 exact hK _ _ (h v' w' h2 h3 h4)
theorem own_block {w : World} {base s n g : Nat} {e : TypeId} {v : Value} {xs : List Value} (h : w.ownsRow base e s v n xs) (hg : v.ownBlock = some g) : base ≤ g ∧ ∃ cur, Box w g e cur := by
 rcases h.2 with ⟨rfl, _⟩ | ⟨g', cap, cur, rfl, hb, hx, _⟩
 ·cases hg
 ·injection hg with hg
  subst hg
  exact ⟨hb, cur, hx⟩
theorem below_row {w0 w w' : World} {base s n : Nat} {e : TypeId} {v : Value} {xs : List Value} (hb : Below base w0 w) (h : w.ownsRow base e s v n xs) (hB : base ≤ w.heap.size) (hg : w.grownBy w' v.ownBlock) : Below base w0 w' :=
 hb.grown hg hB fun g hgu => (own_block h hgu).1
theorem Box.grown {w w' : World} {g : Nat} {t : TypeId} {cs : Array Value} {r : Option Nat} (h : Box w g t cs) (hg : w.grownBy w' r) (hr : some g ≠ r) : Box w' g t cs := (hg.block g h.lt hr).trans h
theorem own_grown {w w' : World} {base s n : Nat} {e : TypeId} {v : Value} {xs : List Value} {r : Option Nat} (h : w.ownsRow base e s v n xs) (hg : w.grownBy w' r) (hr : ∀ g, v.ownBlock = some g → some g ≠ r) : w'.ownsRow base e s v n xs := by
 refine ⟨h.1, ?_⟩
 rcases h.2 with h0 | ⟨g, cap, cur, rfl, hb, hx, hrest⟩
 ·exact .inl h0
 ·exact .inr ⟨g, cap, cur, rfl, hb, Box.grown hx hg (hr g rfl), hrest⟩
end Go.Proofs.YtiiobafcgdelmaaGreat
