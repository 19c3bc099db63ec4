/-
  Attempts as mathematics: what may be, what each function answers. No program.
-/
import Derived.Test.YtmcfamoicdmkdaaBallotMath
import Derived.Test.YtmcfamoicdmkdaaQuorumMath
namespace Go.Proofs.Ytmcfamoicdmkdaa.AM
set_option linter.unusedVariables false

/-- a promise; an attempt -/
structure Pr where
  n : Int
  b : Int
  v : ByteArray
  deriving DecidableEq
structure At where
  ph : Int
  ba : Int
  ms : List Int
  wi : ByteArray
  va : ByteArray
  ps : List Pr
  ac : List Int
  deriving DecidableEq
def zero : At := ⟨0, 0, [], .empty, .empty, [], []⟩
instance (b : Int) : Decidable (BM.good b) := by unfold BM.good; infer_instance

/-- may a promise be, beside a ballot -/
def okP (b : Int) (p : Pr) : Bool := if p.b = 0 then decide (p.v = .empty) else decide (BM.good p.b) && (decide (p.b < b) && decide (p.v.size ≤ 1024))
def bestF : Int → ByteArray → List Pr → ByteArray
  | _, s, [] => s
  | m, s, p :: l => if m < p.b then bestF p.b p.v l else bestF m s l
def best (l : List Pr) (w : ByteArray) : ByteArray := bestF 0 w l
def nodes (l : List Pr) : List Int := l.map (·.n)
theorem nodes_length (l : List Pr) : (nodes l).length = l.length := by simp [nodes]
def most (ms ns : List Int) : Bool := decide (ms.length / 2 + 1 ≤ QM.cnt ms ns)
/-- some of the members, rising, or none -/
def some (ms ns : List Int) : Bool := ns.isEmpty || (QM.may ns && QM.within ns ms)
def okB (ms : List Int) (ba : Int) (wi : ByteArray) : Bool := QM.may ms && (decide (BM.good ba) && decide (wi.size ≤ 1024))
def okL (a : At) : Bool := okB a.ms a.ba a.wi && (a.ps.all (okP a.ba) && (some a.ms (nodes a.ps) && some a.ms a.ac))
def may (a : At) : Bool :=
  if a.ph = 0 then decide (a = zero)
  else decide (1 ≤ a.ph ∧ a.ph ≤ 3) && (okL a &&
    if a.ph = 1 then !most a.ms (nodes a.ps) && (decide (a.va = .empty) && a.ac.isEmpty)
    else most a.ms (nodes a.ps) && (decide (a.va = best a.ps a.wi) && (most a.ms a.ac == decide (a.ph = 3))))

/-- the phase to which what came leads -/
def onward (a : At) : At :=
  if a.ph = 1 then
    if most a.ms (nodes a.ps) then ⟨if most a.ms a.ac then 3 else 2, a.ba, a.ms, a.wi, best a.ps a.wi, a.ps, a.ac⟩ else a
  else if a.ph = 2 then
    if most a.ms a.ac then ⟨3, a.ba, a.ms, a.wi, a.va, a.ps, a.ac⟩ else a
  else a
def again (a : At) : At := onward ⟨1, a.ba, a.ms, a.wi, .empty, a.ps, a.ac⟩
def begun (a : At) : Bool := okL a && ((!(decide ((again a).ph = 1) && !a.ac.isEmpty)) && (decide (a.ph = (again a).ph) && decide (a.va = (again a).va)))

def insP (l : List Pr) (p : Pr) : List Pr := l.takeWhile (fun q => decide (q.n < p.n)) ++ p :: l.dropWhile (fun q => decide (q.n < p.n))
def insI (l : List Int) (x : Int) : List Int := l.takeWhile (fun y => decide (y < x)) ++ x :: l.dropWhile (fun y => decide (y < x))
def addP (a : At) (p : Pr) : At := ⟨a.ph, a.ba, a.ms, a.wi, a.va, if QM.has (nodes a.ps) p.n then a.ps else insP a.ps p, a.ac⟩
def addA (a : At) (n : Int) : At := ⟨a.ph, a.ba, a.ms, a.wi, a.va, a.ps, if QM.has a.ac n then a.ac else insI a.ac n⟩
/-- what is wrong with a promise that comes, an acceptance: 0, if nothing -/
def errP (a : At) (b : Int) (p : Pr) : Int := if may a = false then 8 else if ¬ (a.ph = 1 ∧ b = a.ba ∧ QM.has a.ms p.n = true) then 6 else if okP b p = false then 8 else 0
def errA (a : At) (b n : Int) : Int := if may a = false then 8 else if ¬ (2 ≤ a.ph ∧ b = a.ba ∧ QM.has a.ms n = true) then 6 else 0
def prom (a : At) (b : Int) (p : Pr) : At := if errP a b p = 0 then onward (addP a p) else zero
def acc (a : At) (b n : Int) : At := if errA a b n = 0 then onward (addA a n) else zero
/-- what Begin answers as its error -/
def BegIs (ms : List Int) (ba : Int) (wi : ByteArray) (y : Int) : Prop :=
  (QM.ChkIs ms y ∧ y ≠ 0) ∨ (QM.ChkIs ms 0 ∧ ¬ BM.good ba ∧ y = 50) ∨ (QM.ChkIs ms 0 ∧ BM.good ba ∧ 1024 < wi.size ∧ y = 3) ∨ (QM.ChkIs ms 0 ∧ BM.good ba ∧ wi.size ≤ 1024 ∧ y = 0)
def start (ms : List Int) (ba : Int) (wi : ByteArray) : At := ⟨1, ba, ms, wi, .empty, [], []⟩
theorem begIs_ex (ms : List Int) (ba : Int) (wi : ByteArray) : ∃ y, BegIs ms ba wi y := by
  obtain ⟨y, h⟩ := QM.chkIs_ex ms
  by_cases h0 : y = 0
  · subst h0
    by_cases h1 : BM.good ba
    · by_cases h2 : wi.size ≤ 1024
      · exact ⟨_, .inr (.inr (.inr ⟨h, h1, h2, rfl⟩))⟩
      · exact ⟨_, .inr (.inr (.inl ⟨h, h1, by omega, rfl⟩))⟩
    · exact ⟨_, .inr (.inl ⟨h, h1, rfl⟩)⟩
  · exact ⟨_, .inl ⟨h, h0⟩⟩
theorem chk_may {ms : List Int} : QM.ChkIs ms 0 ↔ QM.may ms = true := by
  constructor
  · intro h
    rcases QM.chkIs_cases h with ⟨_, h⟩ | ⟨_, h⟩
    · exact h
    · omega
  · exact fun h => .inr (.inr ⟨h, rfl⟩)
theorem begIs_zero {ms : List Int} {ba : Int} {wi : ByteArray} : BegIs ms ba wi 0 ↔ okB ms ba wi = true := by
  unfold okB
  simp only [Bool.and_eq_true, decide_eq_true_eq]
  constructor
  · rintro (⟨_, h⟩ | ⟨_, _, h⟩ | ⟨_, _, _, h⟩ | ⟨h1, h2, h3, _⟩)
    · exact absurd rfl h
    · cases h
    · cases h
    · exact ⟨chk_may.1 h1, h2, h3⟩
  · rintro ⟨h1, h2, h3⟩
    exact .inr (.inr (.inr ⟨chk_may.2 h1, h2, h3, rfl⟩))
theorem begIs_eq {ms : List Int} {ba : Int} {wi : ByteArray} {y z : Int} (h : BegIs ms ba wi y) (k : BegIs ms ba wi z) : y = z := by
  rcases h with ⟨h, h0⟩ | ⟨h, h1, rfl⟩ | ⟨h, h1, h2, rfl⟩ | ⟨h, h1, h2, rfl⟩ <;> rcases k with ⟨k, k0⟩ | ⟨k, k1, rfl⟩ | ⟨k, k1, k2, rfl⟩ | ⟨k, k1, k2, rfl⟩ <;>
    first | rfl | exact QM.chkIs_eq h k | (exact absurd (QM.chkIs_eq h k) (by omega)) | (exact absurd (QM.chkIs_eq k h) (by omega)) | contradiction | omega

-- lists that rise
theorem rise_len : ∀ {p : Int} {l : List Int}, -1 ≤ p → QM.rise p l = true → (l.length : Int) ≤ 5 - p ∨ l = []
  | p, [], _, _ => .inr rfl
  | p, x :: l, hp, h => by
    simp only [QM.rise, Bool.and_eq_true, decide_eq_true_eq] at h
    rcases rise_len (p := x) (by omega) h.2.2 with h1 | h1
    · left; rw [List.length_cons]; omega
    · subst h1; left; simp; omega
theorem rise_le {l : List Int} (h : QM.rise (-1) l = true) : l.length ≤ 6 := by
  rcases rise_len (by omega) h with h1 | h1
  · omega
  · subst h1; simp
def adj : List Int → Bool
  | [] => true
  | [_] => true
  | x :: y :: l => decide (x < y) && adj (y :: l)
theorem rise_adj : ∀ {p : Int} {l : List Int}, (∀ x ∈ l, -1 < x ∧ x < 6) → adj l = true → (∀ x ∈ l.head?, p < x) → QM.rise p l = true
  | p, [], _, _, _ => rfl
  | p, [x], h, _, hp => by
    have := h x (by simp); have := hp x (by simp)
    simp [QM.rise]; omega
  | p, x :: y :: l, h, ha, hp => by
    simp only [adj, Bool.and_eq_true, decide_eq_true_eq] at ha
    have h1 := h x (by simp); have h2 := hp x (by simp)
    have ih := rise_adj (p := x) (l := y :: l) (fun z hz => h z (List.mem_cons_of_mem _ hz)) ha.2 (fun z hz => by simp at hz; omega)
    simp only [QM.rise, Bool.and_eq_true, decide_eq_true_eq] at ih ⊢
    exact ⟨h2, h1.2, ih⟩
theorem adj_rise : ∀ {p : Int} {l : List Int}, QM.rise p l = true → adj l = true
  | p, [], _ => rfl
  | p, [x], _ => rfl
  | p, x :: y :: l, h => by
    simp only [QM.rise, Bool.and_eq_true, decide_eq_true_eq] at h
    have := adj_rise (p := x) (l := y :: l) (by simp only [QM.rise, Bool.and_eq_true, decide_eq_true_eq]; exact h.2.2)
    simp only [adj, Bool.and_eq_true, decide_eq_true_eq]
    exact ⟨h.2.2.1, this⟩
theorem within_iff {ns ms : List Int} : QM.within ns ms = true ↔ ∀ x ∈ ns, x ∈ ms := by simp [QM.within, QM.has]
theorem may_mem {ms : List Int} (h : QM.may ms = true) : ∀ x ∈ ms, -1 < x ∧ x < 6 := QM.rise_lt (QM.may_len h).2.2
/-- the document's way to ask it -/
theorem some_adj {ms ns : List Int} (h : QM.may ms = true) : (adj ns && QM.within ns ms) = some ms ns := by
  rcases ns with _ | ⟨x, l⟩
  · simp [adj, QM.within, some]
  · rw [Bool.eq_iff_iff]
    simp only [some, List.isEmpty_cons, Bool.false_or, Bool.and_eq_true]
    constructor
    · rintro ⟨h1, h2⟩
      have hm := within_iff.1 h2
      have hr : QM.rise (-1) (x :: l) = true := rise_adj (fun y hy => may_mem h y (hm y hy)) h1 (fun z hz => by simp at hz; have := may_mem h z (hm z (by rw [← hz]; simp)); omega)
      refine ⟨?_, h2⟩
      unfold QM.may
      simp only [Bool.and_eq_true, decide_eq_true_eq]
      exact ⟨by simp, rise_le hr, hr⟩
    · rintro ⟨h1, h2⟩
      exact ⟨adj_rise (QM.may_len h1).2.2, h2⟩
theorem some_len {ms ns : List Int} (h : some ms ns = true) : ns.length ≤ 6 := by
  rcases ns with _ | ⟨x, l⟩
  · simp
  · simp only [some, List.isEmpty_cons, Bool.false_or, Bool.and_eq_true] at h
    exact (QM.may_len h.1).2.1
theorem some_rise {ms ns : List Int} (h : some ms ns = true) : QM.rise (-1) ns = true := by
  rcases ns with _ | ⟨x, l⟩
  · rfl
  · simp only [some, List.isEmpty_cons, Bool.false_or, Bool.and_eq_true] at h
    exact (QM.may_len h.1).2.2
theorem some_within {ms ns : List Int} (h : some ms ns = true) : ∀ x ∈ ns, x ∈ ms := by
  rcases ns with _ | ⟨x, l⟩
  · simp
  · simp only [some, List.isEmpty_cons, Bool.false_or, Bool.and_eq_true] at h
    exact within_iff.1 h.2
theorem some_grp {ms ns : List Int} {y : Int} (h : QM.may ms = true) (hn : ns ≠ []) (hy : QM.GrpIs ms ns y) : (y == 0) = some ms ns := by
  rcases ns with _ | ⟨x, l⟩
  · exact absurd rfl hn
  · simp only [some, List.isEmpty_cons, Bool.false_or]
    rcases hy with ⟨h1, h2⟩ | ⟨_, h1, h2⟩ | ⟨_, h1, h2⟩
    · exact absurd (QM.chkIs_eq h1 (chk_may.2 h)) h2
    · have : QM.may (x :: l) = false := by
        rcases hm : QM.may (x :: l) with _ | _
        · rfl
        · exact absurd (QM.chkIs_eq h1 (chk_may.2 hm)) h2
      rw [this]; simpa using h2
    · rw [chk_may.1 h1, h2]
      rcases QM.within (x :: l) ms with _ | _ <;> rfl
theorem most_none {ms : List Int} : most ms [] = false := by unfold most; rw [QM.cnt_none]; simp
/-- what the package's isMost answers, of a list that is not great -/
theorem most_is {ms ns : List Int} {b : Bool} {y : Int} (hm : QM.may ms = true) (hl : ns.length ≤ 1000) (h : QM.MostIs ms ns b y) : b = most ms ns ∧ y = 0 := by
  rcases h with ⟨h1, h2, _⟩ | ⟨_, h2, _⟩ | ⟨_, _, h2, h3⟩
  · exact absurd (QM.chkIs_eq h1 (chk_may.2 hm)) h2
  · omega
  · exact ⟨h2, h3⟩

theorem okL_may {a : At} (h : okL a = true) : QM.may a.ms = true := by
  unfold okL okB at h
  simp only [Bool.and_eq_true] at h
  exact h.1.1
theorem begun_may (a : At) : (decide (a = zero) || begun a) = may a := by
  unfold may
  by_cases h0 : a.ph = 0
  · rw [if_pos h0]
    have : begun a = false := by
      unfold begun
      have : ¬ a.ph = (again a).ph := by
        unfold again onward
        rw [h0]
        simp
        split <;> simp
        split <;> simp
      simp [this]
    rw [this, Bool.or_false]
  · rw [if_neg h0]
    have hz : ¬ a = zero := by intro h; rw [h] at h0; exact h0 rfl
    rw [show decide (a = zero) = false by simpa using hz, Bool.false_or]
    unfold begun
    rcases hl : okL a with _ | _
    · simp
    · have hm := okL_may hl
      unfold again onward
      obtain ⟨ph, ba, ms, wi, va, ps, ac⟩ := a
      simp only at h0 ⊢
      rcases h1 : most ms (nodes ps) with _ | _
      · rcases ac with _ | ⟨x, l⟩
        · by_cases e1 : ph = 1
          · subst e1; simp
          · simp [e1]
        · by_cases e1 : ph = 1
          · subst e1; simp
          · simp [e1]
      · rcases h2 : most ms ac with _ | _
        · by_cases e1 : ph = 1
          · subst e1; simp
          · by_cases e2 : ph = 2
            · subst e2; simp
            · by_cases e3 : ph = 3
              · subst e3; simp
              · have e4 : ¬ (1 ≤ ph ∧ ph ≤ 3) := by omega
                simp [e1, e2, e4]
        · by_cases e1 : ph = 1
          · subst e1; simp
          · by_cases e2 : ph = 2
            · subst e2; simp
            · by_cases e3 : ph = 3
              · subst e3; simp
              · have e4 : ¬ (1 ≤ ph ∧ ph ≤ 3) := by omega
                simp [e1, e3, e4]
end Go.Proofs.Ytmcfamoicdmkdaa.AM
