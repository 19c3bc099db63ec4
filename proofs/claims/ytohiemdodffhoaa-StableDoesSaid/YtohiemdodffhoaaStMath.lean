/-
  What lasts of a node (no program): whether it may be, what a record does to it, what records' texts make, the shortest records. Conditions: as each theorem says.
-/
import Derived.Test.YtohiemdodffhoaaRecFr
import Derived.Test.YtohiemdodffhoaaVoteMath
namespace Go.Proofs.Ytohiemdodffhoaa.SM
set_option linter.unusedVariables false
set_option linter.unusedSimpArgs false
open RM (Rc)

instance (p b : Int) (v : ByteArray) : Decidable (VM.may p b v) := by unfold VM.may VM.okP VM.okA BM.good; infer_instance
instance (k : Int) : Decidable (BM.good k) := by unfold BM.good; infer_instance
/-- a vote; a vote at a place; what lasts -/
structure Vo where
  p : Int
  b : Int
  v : ByteArray
  deriving DecidableEq
structure Sn where
  g : Int
  s : Int
  o : Vo
  deriving DecidableEq
structure Sb where
  logs : List (List ByteArray)
  votes : List Sn
  deriving DecidableEq
def vz : Vo := ⟨0, 0, .empty⟩
def zero : Sb := ⟨[], []⟩
def prepF (o : Vo) (k : Int) : Vo × Int :=
  if ¬ VM.may o.p o.b o.v then (vz, 8) else if ¬ BM.good k then (vz, 50) else if k < o.p then (vz, 70) else (⟨k, o.b, o.v⟩, 0)
def accF (o : Vo) (k : Int) (v : ByteArray) : Vo × Int :=
  if ¬ VM.may o.p o.b o.v then (vz, 8) else if ¬ BM.good k then (vz, 50) else if 1024 < v.size then (vz, 3) else if k < o.p then (vz, 70) else (⟨k, k, v⟩, 0)
theorem prepF_is (o : Vo) (k : Int) : VM.PrepIs o.p o.b o.v k (prepF o k).1.p (prepF o k).1.b (prepF o k).1.v (prepF o k).2 := by
  unfold prepF
  by_cases h1 : VM.may o.p o.b o.v
  · by_cases h2 : BM.good k
    · by_cases h3 : k < o.p
      · simp only [h1, h2, h3, not_true, if_false, if_true]
        exact ⟨.inr (.inr (.inr (.inl ⟨h1, h2, by decide, h3, rfl⟩))), .inl ⟨by decide, rfl, rfl, rfl⟩⟩
      · simp only [h1, h2, h3, not_true, if_false, if_true]
        exact ⟨.inr (.inr (.inr (.inr ⟨h1, h2, by decide, by omega, rfl⟩))), .inr ⟨rfl, rfl, rfl, rfl⟩⟩
    · simp only [h1, h2, not_true, not_false_eq_true, if_false, if_true]
      exact ⟨.inr (.inl ⟨h1, h2, rfl⟩), .inl ⟨by decide, rfl, rfl, rfl⟩⟩
  · simp only [h1, not_false_eq_true, if_true]
    exact ⟨.inl ⟨h1, rfl⟩, .inl ⟨by decide, rfl, rfl, rfl⟩⟩
theorem accF_is (o : Vo) (k : Int) (v : ByteArray) : VM.AccIs o.p o.b o.v k v (accF o k v).1.p (accF o k v).1.b (accF o k v).1.v (accF o k v).2 := by
  unfold accF
  by_cases h1 : VM.may o.p o.b o.v
  · by_cases h2 : BM.good k
    · by_cases h4 : 1024 < v.size
      · simp only [h1, h2, h4, not_true, if_false, if_true]
        exact ⟨.inr (.inr (.inl ⟨h1, h2, h4, rfl⟩)), .inl ⟨by decide, rfl, rfl, rfl⟩⟩
      · by_cases h3 : k < o.p
        · simp only [h1, h2, h3, h4, not_true, if_false, if_true]
          exact ⟨.inr (.inr (.inr (.inl ⟨h1, h2, by omega, h3, rfl⟩))), .inl ⟨by decide, rfl, rfl, rfl⟩⟩
        · simp only [h1, h2, h3, h4, not_true, if_false, if_true]
          exact ⟨.inr (.inr (.inr (.inr ⟨h1, h2, by omega, by omega, rfl⟩))), .inr ⟨rfl, rfl, rfl, rfl⟩⟩
    · simp only [h1, h2, not_true, not_false_eq_true, if_false, if_true]
      exact ⟨.inr (.inl ⟨h1, h2, rfl⟩), .inl ⟨by decide, rfl, rfl, rfl⟩⟩
  · simp only [h1, not_false_eq_true, if_true]
    exact ⟨.inl ⟨h1, rfl⟩, .inl ⟨by decide, rfl, rfl, rfl⟩⟩

/-- does a place stand ahead of another one? -/
def lt (a b : Sn) : Bool := decide (a.g < b.g) || (decide (a.g = b.g) && decide (a.s < b.s))
theorem lt_iff {a b : Sn} : lt a b = true ↔ a.g < b.g ∨ (a.g = b.g ∧ a.s < b.s) := by unfold lt; simp
theorem lt_trans {a b c : Sn} (h : lt a b = true) (k : lt b c = true) : lt a c = true := by rw [lt_iff] at *; omega
theorem lt_irrefl (a : Sn) : lt a a = false := by
  cases h : lt a a
  · rfl
  · rw [lt_iff] at h; omega
theorem lt_asymm {a b : Sn} (h : lt a b = true) : lt b a = false := by
  cases k : lt b a
  · rfl
  · rw [lt_iff] at h k; omega
def same (a b : Sn) : Prop := a.g = b.g ∧ a.s = b.s
theorem lt_total {a b : Sn} (h : lt a b = false) (k : lt b a = false) : a.g = b.g ∧ a.s = b.s := by
  have h1 : ¬ (lt a b = true) := by rw [h]; decide
  have k1 : ¬ (lt b a = true) := by rw [k]; decide
  rw [lt_iff] at h1 k1; omega
def rise : List Sn → Bool
  | a :: b :: l => lt a b && rise (b :: l)
  | _ => true
def Rises (l : List Sn) : Prop := l.Pairwise (fun a b => lt a b = true)
theorem rise_iff : ∀ l : List Sn, rise l = true ↔ Rises l
  | [] => by simp [rise, Rises]
  | [a] => by simp [rise, Rises]
  | a :: b :: l => by
    have ih := rise_iff (b :: l)
    unfold Rises at ih ⊢
    rw [rise, Bool.and_eq_true, ih]
    refine Iff.trans ?_ List.pairwise_cons.symm
    constructor
    · rintro ⟨h1, h2⟩
      refine ⟨fun c hc => ?_, h2⟩
      rcases List.mem_cons.1 hc with rfl | hc
      · exact h1
      · exact lt_trans h1 ((List.pairwise_cons.1 h2).1 c hc)
    · rintro ⟨h1, h2⟩
      exact ⟨h1 b (List.mem_cons_self ..), h2⟩
theorem rise_get {l : List Sn} : rise l = true ↔ ∀ (i : Nat) a b, l[i]? = some a → l[i + 1]? = some b → lt a b = true := by
  constructor
  · intro h i a b ha hb
    have := (rise_iff l).1 h
    rw [Rises, List.pairwise_iff_getElem] at this
    obtain ⟨h1, e1⟩ := List.getElem?_eq_some_iff.1 ha
    obtain ⟨h2, e2⟩ := List.getElem?_eq_some_iff.1 hb
    rw [← e1, ← e2]
    exact this i (i + 1) h1 h2 (by omega)
  · intro h
    induction l with
    | nil => rfl
    | cons x l ih =>
      cases l with
      | nil => rfl
      | cons y l =>
        rw [rise, Bool.and_eq_true]
        exact ⟨h 0 x y rfl rfl, ih fun i a b ha hb => h (i + 1) a b (by simpa using ha) (by simpa using hb)⟩

/-- the vote at a place -/
def find : List Sn → Int → Int → Vo
  | [], _, _ => vz
  | x :: l, g, s => if x.g = g ∧ x.s = s then x.o else find l g s
/-- votes with another one at a place, or, if it is zero, without one there -/
def put (l : List Sn) (x : Sn) : List Sn := l.filter (fun y => lt y x) ++ ((if x.o = vz then [] else [x]) ++ l.filter (fun y => lt x y))
def llen (ls : List (List ByteArray)) (g : Int) : Nat := ((ls[g.toNat]?).getD []).length
def logOk (l : List ByteArray) : Prop := l.length ≤ 200 ∧ ∀ v ∈ l, v.size ≤ 1024
instance (l : List ByteArray) : Decidable (logOk l) := by unfold logOk; infer_instance
def snOk (ls : List (List ByteArray)) (x : Sn) : Prop := 0 ≤ x.g ∧ x.g < ls.length ∧ x.s ≤ 200 ∧ (llen ls x.g : Int) < x.s ∧ VM.may x.o.p x.o.b x.o.v ∧ x.o.p ≠ 0
instance (ls : List (List ByteArray)) (x : Sn) : Decidable (snOk ls x) := by unfold snOk; infer_instance
def may (x : Sb) : Prop := (1 ≤ x.logs.length ∧ x.logs.length ≤ 4) ∧ (∀ l ∈ x.logs, logOk l) ∧ (∀ v ∈ x.votes, snOk x.logs v) ∧ rise x.votes = true
instance (x : Sb) : Decidable (may x) := by unfold may; infer_instance
def newF (n : Int) : Sb × Int := if n < 1 ∨ 4 < n then (zero, 2) else (⟨List.replicate n.toNat [], []⟩, 0)
/-- what a record does -/
def appF (x : Sb) (r : Rc) : Sb × Int :=
  if ¬ may x ∨ ¬ RM.may r then (zero, 8)
  else if (x.logs.length : Int) ≤ r.g then (zero, 6)
  else if r.s ≤ llen x.logs r.g ∨ (r.k = 3 ∧ r.s ≠ llen x.logs r.g + 1) then (zero, 8)
  else if r.k = 1 then
    if (prepF (find x.votes r.g r.s) r.b).2 ≠ 0 then (zero, (prepF (find x.votes r.g r.s) r.b).2) else (⟨x.logs, put x.votes ⟨r.g, r.s, (prepF (find x.votes r.g r.s) r.b).1⟩⟩, 0)
  else if r.k = 2 then
    if (accF (find x.votes r.g r.s) r.b r.v).2 ≠ 0 then (zero, (accF (find x.votes r.g r.s) r.b r.v).2) else (⟨x.logs, put x.votes ⟨r.g, r.s, (accF (find x.votes r.g r.s) r.b r.v).1⟩⟩, 0)
  else (⟨x.logs.modify r.g.toNat (· ++ [r.v]), put x.votes ⟨r.g, r.s, vz⟩⟩, 0)
def atF (x : Sb) (g s : Int) : Vo × Int :=
  if ¬ may x then (vz, 8) else if g < 0 ∨ (x.logs.length : Int) ≤ g then (vz, 6) else if s < 1 ∨ 200 < s then (vz, 2) else (find x.votes g s, 0)
/-- what texts make, text by text -/
def runF : Sb → List (List UInt8) → Sb × Int
  | x, [] => (x, 0)
  | x, t :: l =>
    match RM.read t with
    | none => (zero, 8)
    | some r => if (appF x r).2 ≠ 0 then (zero, (appF x r).2) else runF (appF x r).1 l
def replayF (n : Int) (l : List (List UInt8)) : Sb × Int :=
  if (newF n).2 ≠ 0 then (zero, (newF n).2) else if 65536 < l.length then (zero, 4) else runF (newF n).1 l
/-- the shortest records -/
def logRecs (g : Int) : Nat → List ByteArray → List Rc
  | _, [] => []
  | i, v :: l => ⟨3, g, i + 1, 0, v⟩ :: logRecs g (i + 1) l
def logsRecs : Nat → List (List ByteArray) → List Rc
  | _, [] => []
  | g, l :: ls => logRecs g 0 l ++ logsRecs (g + 1) ls
def snRecs (x : Sn) : List Rc := (if 0 < x.o.b then [⟨2, x.g, x.s, x.o.b, x.o.v⟩] else []) ++ (if x.o.b < x.o.p then [⟨1, x.g, x.s, x.o.p, .empty⟩] else [])
def recs (x : Sb) : List Rc := logsRecs 0 x.logs ++ x.votes.flatMap snRecs
def image (x : Sb) : List (List UInt8) := (recs x).map RM.wr
end Go.Proofs.Ytohiemdodffhoaa.SM
