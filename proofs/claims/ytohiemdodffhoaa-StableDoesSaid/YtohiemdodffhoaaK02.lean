/-
  What the shortest records make is the same (no program). Conditions: one that may be.
  What the document's own Records of layer 11 answers (towncrierref11.Records): the shortest records. Conditions: one that may be.
  What the document's own Text and Write of layer 10 (towncrierref10) answer. Conditions: as each theorem says.
  What the document's own Image of layer 11 answers (towncrierref11.Image): the texts of the shortest records. Conditions: texts' lengths are ones that Go has.
  Contracts of the program's functions of layer 11, as the laws' walks take them. No walk.
  Arguments opened to cells: rows of structs of s cells (parted from ArgCells). Conditions: as each theorem says.
  An argument that is what lasts of a node (api.Stable by value), opened to cells. Conditions: as each theorem says.
  Words for memory: copy in a block known whole, elements of s cells; what an insertion leaves. No walk.
  What slices.Insert of one vote makes of a row of the call's own. Conditions: the row is not long; the element lies in a block of its own.
  What slices.Delete and slices.Replace of one vote make of a row of the call's own. Conditions: the row is not long; the new element lies in a block of its own.
  Where a vote stands among rising ones (no program). Conditions: the votes rise.
  How package stable compares places: cmp.Compare, cmp.Or, byPlace. No condition.
-/
import Derived.Test.YtohiemdodffhoaaStMath
import Derived.Test.YtohiemdodffhoaaStOwn
import Derived.Test.YtohiemdodffhoaaStLen
import Derived.Deep.DeepCutAuto
import Derived.Test.YtohiemdodffhoaaRecRM
import Derived.Test.YtohiemdodffhoaaStApH
import Derived.Test.YtohiemdodffhoaaK01
import Derived.Test.YtohiemdodffhoaaProg
import Derived.Test.YtohiemdodffhoaaRowG
import Derived.Test.YtohiemdodffhoaaRows
import Derived.Lib.SmallJoins
import Derived.OpenShut
import Derived.Deep.Slices
import Derived.Deep.Fields
import Derived.ChangeSame
import Derived.Test.YtohiemdodffhoaaStMem
import Derived.SliceStrings
import Derived.Deep.Strs
import Derived.Laws.IdiomCopy
import Derived.Lib.AppendZerosOnto
import Derived.Lib.Overlaps
import Derived.Shelf.RegionOpenPlain
import Derived.Test.YtohiemdodffhoaaStE
import Derived.Deep.RegionLaw
import Derived.Deep.QuietTactic
import Derived.BigQuiet
import Derived.Test.YtohiemdodffhoaaStGoes
import Derived.Deep.RegionHeld3
namespace Go.Proofs.Ytohiemdodffhoaa.SM
set_option linter.unusedVariables false
set_option linter.unusedSimpArgs false
open RM (Rc)

theorem read_wr {r : Rc} (h : RM.may r) : RM.read (RM.wr r) = some r := by
  have h2 := RM.readIs_read (RM.wr r)
  have h3 := RM.readIs_wr h h2
  rcases h4 : RM.read (RM.wr r) with _ | q
  · rw [h4] at h3; simp at h3
  · rw [h4] at h3
    simp at h3
    rw [h3]
/-- records one behind the other -/
def appsF : Sb → List Rc → Sb × Int
  | x, [] => (x, 0)
  | x, r :: l => if (appF x r).2 ≠ 0 then (zero, (appF x r).2) else appsF (appF x r).1 l
theorem runF_map : ∀ (l : List Rc) (x : Sb), (∀ r ∈ l, RM.may r) → runF x (l.map RM.wr) = appsF x l
  | [], _, _ => rfl
  | r :: l, x, h => by
    rw [List.map_cons, runF, read_wr (h r (List.mem_cons_self ..)), appsF]
    simp only
    split
    · rfl
    · exact runF_map l _ fun q hq => h q (List.mem_cons_of_mem _ hq)
theorem appsF_append : ∀ (l m : List Rc) (x y : Sb), appsF x l = (y, 0) → appsF x (l ++ m) = appsF y m
  | [], m, x, y, h => by simp [appsF] at h; rw [h]; rfl
  | r :: l, m, x, y, h => by
    rw [appsF] at h
    rw [List.cons_append, appsF]
    by_cases h0 : (appF x r).2 ≠ 0
    · rw [if_pos h0] at h
      simp at h
      exact absurd h.2 h0
    · rw [if_neg h0] at h ⊢
      exact appsF_append l m _ y h

/-! ### the logs: decisions in order -/
/-- a decision that comes next, where there are no votes -/
theorem app_decide {ls : List (List ByteArray)} {g : Nat} {l : List ByteArray} {v : ByteArray} (hm : may ⟨ls, []⟩) (hg : ls[g]? = some l) (hl : l.length < 200) (hv : v.size ≤ 1024) :
    appF ⟨ls, []⟩ ⟨3, g, (l.length : Nat) + 1, 0, v⟩ = (⟨ls.set g (l ++ [v]), []⟩, 0) := by
  have hgl := (List.getElem?_eq_some_iff.1 hg).1
  have h4 : ls.length ≤ 4 := hm.1.2
  have hr : RM.may ⟨3, g, (l.length : Nat) + 1, 0, v⟩ := ⟨⟨by simp only; omega, by simp only; omega⟩, ⟨by simp only; omega, by simp only; omega⟩, .inr (.inr ⟨rfl, rfl, hv⟩)⟩
  have hll : llen ls g = l.length := by unfold llen; simp [hg]
  unfold appF
  rw [if_neg (by simp [hm, hr]), if_neg (by simp only; omega), if_neg (by simp only [hll]; omega)]
  simp only
  rw [if_neg (by decide), if_neg (by decide)]
  have e : ls.modify g (· ++ [v]) = ls.set g (l ++ [v]) := by
    apply List.ext_getElem?
    intro i
    rw [List.getElem?_modify, List.getElem?_set]
    by_cases h : g = i
    · subst h; simp [hgl]; exact (List.getElem?_eq_some_iff.1 hg).2
    · simp [h]
  simp only [Int.toNat_natCast, e]
  rfl
theorem logOk_snoc {l : List ByteArray} {v : ByteArray} {m : List ByteArray} (h : logOk (l ++ v :: m)) : logOk (l ++ [v]) ∧ l.length < 200 ∧ v.size ≤ 1024 := by
  obtain ⟨h1, h2⟩ := h
  rw [List.length_append, List.length_cons] at h1
  refine ⟨⟨by rw [List.length_append, List.length_singleton]; omega, fun u hu => h2 u ?_⟩, by omega, h2 v (by simp)⟩
  rcases List.mem_append.1 hu with hu | hu
  · exact List.mem_append.2 (.inl hu)
  · rw [List.mem_singleton] at hu; subst hu; simp
/-- all values of one log -/
theorem apps_log : ∀ (m : List ByteArray) (ls : List (List ByteArray)) (g : Nat) (l : List ByteArray), may ⟨ls, []⟩ → ls[g]? = some l → logOk (l ++ m) →
    appsF ⟨ls, []⟩ (logRecs g l.length m) = (⟨ls.set g (l ++ m), []⟩, 0) ∧ may ⟨ls.set g (l ++ m), []⟩
  | [], ls, g, l, hm, hg, h => by
    have : ls.set g (l ++ []) = ls := by
      rw [List.append_nil]
      apply List.ext_getElem?
      intro i
      rw [List.getElem?_set]
      by_cases hi : g = i
      · subst hi; simp [(List.getElem?_eq_some_iff.1 hg).1]; exact (List.getElem?_eq_some_iff.1 hg).2.symm
      · simp [hi]
    rw [this]
    exact ⟨rfl, hm⟩
  | v :: m, ls, g, l, hm, hg, h => by
    obtain ⟨h1, h2, h3⟩ := logOk_snoc h
    have hgl := (List.getElem?_eq_some_iff.1 hg).1
    have hm2 : may ⟨ls.set g (l ++ [v]), []⟩ := by
      refine ⟨by simpa using hm.1, fun q hq => ?_, fun q hq => (by cases hq), rfl⟩
      rcases List.mem_or_eq_of_mem_set hq with hq | rfl
      · exact hm.2.1 q hq
      · exact h1
    have ih := apps_log m (ls.set g (l ++ [v])) g (l ++ [v]) hm2 (by simp [hgl]) (by rw [List.append_assoc]; exact h)
    rw [logRecs, appsF, app_decide hm hg h2 h3]
    simp only [ne_eq, not_true, if_false]
    rw [show (l ++ [v]).length = l.length + 1 by simp] at ih
    rw [List.set_set, List.append_assoc] at ih
    exact ih
/-- all logs -/
theorem apps_logs : ∀ (ls pre : List (List ByteArray)), may ⟨pre ++ ls, []⟩ → may ⟨pre ++ List.replicate ls.length [], []⟩ →
    appsF ⟨pre ++ List.replicate ls.length [], []⟩ (logsRecs pre.length ls) = (⟨pre ++ ls, []⟩, 0)
  | [], pre, _, _ => by simp [logsRecs, appsF]
  | l :: ls, pre, hm, h0 => by
    have hg : (pre ++ List.replicate (ls.length + 1) ([] : List ByteArray))[pre.length]? = some [] := by simp
    have h1 := apps_log l (pre ++ List.replicate (ls.length + 1) []) pre.length [] (by simpa using h0) hg (by simpa using hm.2.1 l (by simp))
    have e : (pre ++ List.replicate (ls.length + 1) ([] : List ByteArray)).set pre.length ([] ++ l) = (pre ++ [l]) ++ List.replicate ls.length [] := by
      rw [List.set_append_right _ _ (Nat.le_refl _), Nat.sub_self, List.replicate_succ, List.set_cons_zero]
      simp
    rw [e] at h1
    have h2 := apps_logs ls (pre ++ [l]) (by simpa using hm) h1.2
    rw [logsRecs]
    rw [show (pre ++ [l]).length = pre.length + 1 by simp] at h2
    have h3 := appsF_append _ (logsRecs (pre.length + 1) ls) _ _ h1.1
    rw [List.length_cons]
    rw [show ([] : List ByteArray).length = 0 from rfl] at h3
    rw [h3, h2]
    simp

/-! ### the votes, in order -/
theorem find_none : ∀ {l : List Sn} {x : Sn}, (∀ y ∈ l, lt y x = true) → find l x.g x.s = vz
  | [], _, _ => rfl
  | y :: l, x, h => by
    have h1 := h y (List.mem_cons_self ..)
    rw [find, if_neg (by rw [lt_iff] at h1; omega)]
    exact find_none fun z hz => h z (List.mem_cons_of_mem _ hz)
theorem find_last : ∀ {l : List Sn} {x : Sn}, (∀ y ∈ l, lt y x = true) → find (l ++ [x]) x.g x.s = x.o
  | [], x, _ => by simp [find]
  | y :: l, x, h => by
    have h1 := h y (List.mem_cons_self ..)
    rw [List.cons_append, find, if_neg (by rw [lt_iff] at h1; omega)]
    exact find_last fun z hz => h z (List.mem_cons_of_mem _ hz)
theorem filter_all {l : List Sn} {p : Sn → Bool} (h : ∀ y ∈ l, p y = true) : l.filter p = l := List.filter_eq_self.2 h
theorem filter_none {l : List Sn} {p : Sn → Bool} (h : ∀ y ∈ l, p y = false) : l.filter p = [] := by
  rw [List.filter_eq_nil_iff]
  intro y hy
  rw [h y hy]; decide
theorem put_new {l : List Sn} {x : Sn} (h : ∀ y ∈ l, lt y x = true) (hx : x.o ≠ vz) : put l x = l ++ [x] := by
  unfold put
  rw [filter_all h, if_neg hx, filter_none (fun y hy => lt_asymm (h y hy))]
  simp
theorem lt_same {x y : Sn} (h : x.g = y.g ∧ x.s = y.s) (z : Sn) : lt z x = lt z y ∧ lt x z = lt y z := by
  unfold lt; rw [h.1, h.2]; exact ⟨rfl, rfl⟩
theorem put_last {l : List Sn} {x y : Sn} (h : ∀ z ∈ l, lt z x = true) (hs : x.g = y.g ∧ x.s = y.s) (hy : y.o ≠ vz) : put (l ++ [x]) y = l ++ [y] := by
  unfold put
  rw [List.filter_append, List.filter_append, filter_all (fun z hz => by rw [← (lt_same hs z).1]; exact h z hz), filter_none (l := l) (fun z hz => by rw [← (lt_same hs z).2]; exact lt_asymm (h z hz)), if_neg hy,
    filter_none (l := [x]) (fun z hz => by rw [List.mem_singleton] at hz; subst hz; rw [← (lt_same hs z).1]; exact lt_irrefl z),
    filter_none (l := [x]) (fun z hz => by rw [List.mem_singleton] at hz; subst hz; rw [← (lt_same hs z).2]; exact lt_irrefl z)]
  simp
/-- a vote on a later slot is made by its records -/
theorem apps_vote {ls : List (List ByteArray)} {l : List Sn} {x : Sn} (hm : may ⟨ls, l ++ [x]⟩) : appsF ⟨ls, l⟩ (snRecs x) = (⟨ls, l ++ [x]⟩, 0) := by
  have hr := (rise_iff _).1 hm.2.2.2
  have hlt : ∀ y ∈ l, lt y x = true := fun y hy => (List.pairwise_append.1 hr).2.2 y hy x (by simp)
  have hx := hm.2.2.1 x (by simp)
  have hm0 : may ⟨ls, l⟩ := ⟨hm.1, hm.2.1, fun v hv => hm.2.2.1 v (List.mem_append.2 (.inl hv)), (rise_iff _).2 (List.pairwise_append.1 hr).1⟩
  obtain ⟨g, s, ⟨p, b, v⟩⟩ := x
  obtain ⟨h1, h2, h3, h4, h5, h6⟩ := hx
  simp only at h1 h2 h3 h4 h5 h6
  have h44 := hm.1.2
  simp only at h44
  have hgp : BM.good p := h5.1.resolve_left h6
  have hgp8 : 8 ≤ p := hgp.1
  have hmay0 : VM.may 0 0 .empty := ⟨.inl rfl, .inl ⟨rfl, rfl⟩⟩
  have hfz : find l g s = vz := find_none (x := ⟨g, s, ⟨p, b, v⟩⟩) hlt
  rcases h5.2 with ⟨hb, hv⟩ | ⟨hb, hgb, hbp, hv⟩
  · subst hb hv
    unfold snRecs
    simp only
    rw [if_neg (by omega), if_pos (by omega), List.nil_append, appsF]
    have hr1 : RM.may ⟨1, g, s, p, .empty⟩ := ⟨⟨h1, by simp only; omega⟩, ⟨by simp only; omega, h3⟩, .inl ⟨rfl, hgp, rfl⟩⟩
    have e : appF ⟨ls, l⟩ ⟨1, g, s, p, .empty⟩ = (⟨ls, l ++ [⟨g, s, ⟨p, 0, .empty⟩⟩]⟩, 0) := by
      unfold appF
      rw [if_neg (by simp [hm0, hr1]), if_neg (by simp only; omega), if_neg (by simp only; omega)]
      simp only [if_true]
      rw [hfz]
      have e1 : prepF vz p = (⟨p, 0, .empty⟩, 0) := by
        unfold prepF vz
        simp only
        rw [if_neg (by simpa using hmay0), if_neg (by simpa using hgp), if_neg (by omega)]
      rw [e1]
      simp only [ne_eq, not_true, if_false]
      rw [put_new hlt (by intro h; injection h; omega)]
    rw [e]
    simp [appsF]
  · have hgb8 : 8 ≤ b := hgb.1
    have hr2 : RM.may ⟨2, g, s, b, v⟩ := ⟨⟨h1, by simp only; omega⟩, ⟨by simp only; omega, h3⟩, .inr (.inl ⟨rfl, hgb, hv⟩)⟩
    have e : appF ⟨ls, l⟩ ⟨2, g, s, b, v⟩ = (⟨ls, l ++ [⟨g, s, ⟨b, b, v⟩⟩]⟩, 0) := by
      unfold appF
      rw [if_neg (by simp [hm0, hr2]), if_neg (by simp only; omega), if_neg (by simp only; omega)]
      simp only [if_true]
      rw [if_neg (by decide), hfz]
      have e1 : accF vz b v = (⟨b, b, v⟩, 0) := by
        unfold accF vz
        simp only
        rw [if_neg (by simpa using hmay0), if_neg (by simpa using hgb), if_neg (by omega), if_neg (by omega)]
      rw [e1]
      simp only [ne_eq, not_true, if_false]
      rw [put_new (x := ⟨g, s, ⟨b, b, v⟩⟩) (fun y hy => by have := hlt y hy; rw [lt_iff] at this ⊢; exact this) (by intro h; injection h; omega)]
    unfold snRecs
    simp only
    rw [if_pos (by omega)]
    by_cases hbp2 : b < p
    · rw [if_pos hbp2, List.singleton_append, appsF, e]
      simp only [ne_eq, not_true, if_false]
      have hlt2 : ∀ y ∈ l, lt y ⟨g, s, ⟨b, b, v⟩⟩ = true := fun y hy => by have := hlt y hy; rw [lt_iff] at this ⊢; exact this
      have hmb : VM.may b b v := VM.may_acc hgb hv
      have hm1 : may ⟨ls, l ++ [⟨g, s, ⟨b, b, v⟩⟩]⟩ := by
        refine ⟨hm.1, hm.2.1, fun y hy => ?_, (rise_iff _).2 ?_⟩
        · rcases List.mem_append.1 hy with hy | hy
          · exact hm0.2.2.1 y hy
          · rw [List.mem_singleton] at hy; subst hy
            exact ⟨h1, h2, h3, h4, hmb, by simp only; omega⟩
        · exact List.pairwise_append.2 ⟨(List.pairwise_append.1 hr).1, by simp, fun y hy z hz => by rw [List.mem_singleton] at hz; subst hz; exact hlt2 y hy⟩
      have hr1 : RM.may ⟨1, g, s, p, .empty⟩ := ⟨⟨h1, by simp only; omega⟩, ⟨by simp only; omega, h3⟩, .inl ⟨rfl, hgp, rfl⟩⟩
      have e2 : appF ⟨ls, l ++ [⟨g, s, ⟨b, b, v⟩⟩]⟩ ⟨1, g, s, p, .empty⟩ = (⟨ls, l ++ [⟨g, s, ⟨p, b, v⟩⟩]⟩, 0) := by
        unfold appF
        rw [if_neg (by simp [hm1, hr1]), if_neg (by simp only; omega), if_neg (by simp only; omega)]
        simp only [if_true]
        have hf : find (l ++ [⟨g, s, ⟨b, b, v⟩⟩]) g s = ⟨b, b, v⟩ := find_last (x := ⟨g, s, ⟨b, b, v⟩⟩) hlt2
        rw [hf]
        have e1 : prepF ⟨b, b, v⟩ p = (⟨p, b, v⟩, 0) := by
          unfold prepF
          simp only
          rw [if_neg (by simpa using hmb), if_neg (by simpa using hgp), if_neg (by omega)]
        rw [e1]
        simp only [ne_eq, not_true, if_false]
        rw [put_last (x := ⟨g, s, ⟨b, b, v⟩⟩) (y := ⟨g, s, ⟨p, b, v⟩⟩) hlt2 ⟨rfl, rfl⟩ (by intro h; injection h; omega)]
      rw [appsF, e2]
      simp [appsF]
    · obtain rfl : b = p := by omega
      rw [if_neg hbp2, List.append_nil, appsF, e]
      simp [appsF]
theorem apps_votes : ∀ (m l : List Sn) (ls : List (List ByteArray)), may ⟨ls, l ++ m⟩ → appsF ⟨ls, l⟩ (m.flatMap snRecs) = (⟨ls, l ++ m⟩, 0)
  | [], l, ls, _ => by simp [appsF]
  | x :: m, l, ls, hm => by
    have hr := (rise_iff _).1 hm.2.2.2
    have hm1 : may ⟨ls, l ++ [x]⟩ := by
      refine ⟨hm.1, hm.2.1, fun y hy => hm.2.2.1 y ?_, (rise_iff _).2 ?_⟩
      · rcases List.mem_append.1 hy with hy | hy
        · exact List.mem_append.2 (.inl hy)
        · rw [List.mem_singleton] at hy; subst hy; simp
      · have : l ++ x :: m = (l ++ [x]) ++ m := by simp
        simp only at hr
        rw [this] at hr
        exact (List.pairwise_append.1 hr).1
    rw [List.flatMap_cons, appsF_append _ _ _ _ (apps_vote hm1)]
    have := apps_votes m (l ++ [x]) ls (by simpa using hm)
    rw [this]
    simp
theorem rec_log {l : List ByteArray} : ∀ (g i : Nat), g < 4 → i + l.length ≤ 200 → (∀ v ∈ l, v.size ≤ 1024) → ∀ r ∈ logRecs g i l, RM.may r := by
  induction l with
  | nil => intro g i _ _ _ r hr; cases hr
  | cons v l ih =>
    intro g i hg hi hv r hr
    rw [List.length_cons] at hi
    rcases List.mem_cons.1 hr with rfl | hr
    · exact ⟨⟨by simp only; omega, by simp only; omega⟩, ⟨by simp only; omega, by simp only; omega⟩, .inr (.inr ⟨rfl, rfl, hv v (by simp)⟩)⟩
    · exact ih g (i + 1) hg (by omega) (fun u hu => hv u (List.mem_cons_of_mem _ hu)) r hr
theorem rec_logs : ∀ (ls : List (List ByteArray)) (g : Nat), g + ls.length ≤ 4 → (∀ l ∈ ls, logOk l) → ∀ r ∈ logsRecs g ls, RM.may r
  | [], _, _, _, r, hr => by cases hr
  | l :: ls, g, hg, h, r, hr => by
    rw [List.length_cons] at hg
    rcases List.mem_append.1 hr with hr | hr
    · have := h l (by simp)
      exact rec_log g 0 (by omega) (by have := this.1; omega) this.2 r hr
    · exact rec_logs ls (g + 1) (by omega) (fun q hq => h q (List.mem_cons_of_mem _ hq)) r hr
theorem rec_sn {ls : List (List ByteArray)} {x : Sn} (h4 : ls.length ≤ 4) (hx : snOk ls x) : ∀ r ∈ snRecs x, RM.may r := by
  obtain ⟨h1, h2, h3, h5, h6, h7⟩ := hx
  intro r hr
  have hgp : BM.good x.o.p := h6.1.resolve_left h7
  rcases List.mem_append.1 hr with hr | hr
  · by_cases hb : 0 < x.o.b
    · rw [if_pos hb, List.mem_singleton] at hr
      subst hr
      rcases h6.2 with ⟨h, _⟩ | ⟨_, hgb, _, hv⟩
      · omega
      · exact ⟨⟨h1, by simp only; omega⟩, ⟨by simp only; omega, h3⟩, .inr (.inl ⟨rfl, hgb, hv⟩)⟩
    · rw [if_neg hb] at hr; cases hr
  · by_cases hb : x.o.b < x.o.p
    · rw [if_pos hb, List.mem_singleton] at hr
      subst hr
      exact ⟨⟨h1, by simp only; omega⟩, ⟨by simp only; omega, h3⟩, .inl ⟨rfl, hgp, rfl⟩⟩
    · rw [if_neg hb] at hr; cases hr
theorem rec_all {x : Sb} (h : may x) : ∀ r ∈ recs x, RM.may r := by
  intro r hr
  rcases List.mem_append.1 hr with hr | hr
  · exact rec_logs x.logs 0 (by have := h.1.2; omega) h.2.1 r hr
  · obtain ⟨v, hv, hr⟩ := List.mem_flatMap.1 hr
    exact rec_sn h.1.2 (h.2.2.1 v hv) r hr
/-- the stage's theorem, ahead of the bound on how many texts there are -/
theorem run_image {x : Sb} (h : may x) : runF ⟨List.replicate x.logs.length [], []⟩ (image x) = (x, 0) := by
  unfold image
  rw [runF_map _ _ (rec_all h)]
  unfold recs
  have hm : may ⟨x.logs, []⟩ := ⟨h.1, h.2.1, fun v hv => (by cases hv), rfl⟩
  have h0 : may ⟨List.replicate x.logs.length [], []⟩ := by
    refine ⟨by simpa using h.1, fun l hl => ?_, fun v hv => (by cases hv), rfl⟩
    rw [(List.mem_replicate.1 hl).2]
    exact ⟨by decide, fun v hv => (by cases hv)⟩
  have h1 := apps_logs x.logs [] (by simpa using hm) (by simpa using h0)
  simp only [List.nil_append, List.length_nil] at h1
  rw [appsF_append _ _ _ _ h1]
  have := apps_votes x.votes [] x.logs (by simpa using h)
  simpa using this
/-! ### how many texts -/
theorem logRecs_len : ∀ (l : List ByteArray) (g : Int) (i : Nat), (logRecs g i l).length = l.length
  | [], _, _ => rfl
  | v :: l, g, i => by rw [logRecs, List.length_cons, logRecs_len l, List.length_cons]
def many (ls : List (List ByteArray)) : Nat := (ls.map List.length).sum
theorem logsRecs_len : ∀ (ls : List (List ByteArray)) (g : Nat), (logsRecs g ls).length = many ls
  | [], _ => rfl
  | l :: ls, g => by rw [logsRecs, List.length_append, logRecs_len, logsRecs_len ls]; simp [many]
theorem snRecs_len {ls : List (List ByteArray)} {x : Sn} (h : snOk ls x) : 1 ≤ (snRecs x).length ∧ (snRecs x).length ≤ 2 := by
  obtain ⟨_, _, _, _, h6, h7⟩ := h
  have hgp : 8 ≤ x.o.p := (h6.1.resolve_left h7).1
  unfold snRecs
  rw [List.length_append]
  split <;> split <;> simp <;> omega
theorem votes_len : ∀ (m : List Sn) (ls : List (List ByteArray)), (∀ v ∈ m, snOk ls v) → m.length ≤ (m.flatMap snRecs).length ∧ (m.flatMap snRecs).length ≤ 2 * m.length
  | [], _, _ => by simp
  | x :: m, ls, h => by
    have h1 := snRecs_len (h x (by simp))
    have h2 := votes_len m ls (fun v hv => h v (List.mem_cons_of_mem _ hv))
    rw [List.flatMap_cons, List.length_append, List.length_cons]
    omega
theorem image_len {x : Sb} (h : may x) : (image x).length ≤ many x.logs + 2 * x.votes.length ∧ many x.logs + x.votes.length ≤ (image x).length := by
  unfold image recs
  rw [List.length_map, List.length_append, logsRecs_len]
  have := votes_len x.votes x.logs h.2.2.1
  omega
theorem many_le : ∀ (ls : List (List ByteArray)), (∀ l ∈ ls, logOk l) → many ls ≤ 200 * ls.length
  | [], _ => by simp [many]
  | l :: ls, h => by
    have h1 := (h l (by simp)).1
    have h2 := many_le ls (fun q hq => h q (List.mem_cons_of_mem _ hq))
    unfold many at h2 ⊢
    rw [List.map_cons, List.sum_cons, List.length_cons]
    omega
/-- what the shortest records make is the same -/
theorem back {x : Sb} (h : may x) (hv : x.votes.length ≤ 1000) : replayF x.logs.length (image x) = (x, 0) := by
  have hl := h.1
  have h1 := image_len h
  have h2 := many_le x.logs h.2.1
  have hn : newF x.logs.length = (⟨List.replicate x.logs.length [], []⟩, 0) := by
    unfold newF
    rw [if_neg (by omega)]
    simp
  unfold replayF
  rw [hn]
  simp only [ne_eq, not_true, if_false]
  rw [if_neg (by omega)]
  exact run_image h
end Go.Proofs.Ytohiemdodffhoaa.SM

namespace Go.Proofs.Ytohiemdodffhoaa.SP
open Go.RowKit
open SM (Sn Sb Vo)
open RM (Rc)
set_option linter.unusedVariables false
set_option linter.unusedSimpArgs false
set_option maxRecDepth 100000

def rcell (r : Rc) : List Value := [.int .u8 r.k, .int .i64 r.g, .int .i64 r.s, .int .i64 r.b, .string r.v]
theorem rc_one (r : Rc) : ∀ u ∈ rcell r, u.oneCell' = true := by intro u hu; simp [rcell] at hu; rcases hu with rfl | rfl | rfl | rfl | rfl <;> rfl
theorem rc_len (l : List Rc) : ∀ a ∈ l, (rcell a).length = 5 := fun _ _ => rfl
theorem info_rec : (Try.prog.info? 29).map (fun i => (i.zero, i.size, i.bytes)) = some (some (.agg #[.int .u8 0, .int .i64 0, .int .i64 0, .int .i64 0, .string ⟨#[]⟩]), 5, 48) := by kernel_rfl
theorem logRecs_snoc : ∀ (l : List ByteArray) (v : ByteArray) (g : Int) (i : Nat), SM.logRecs g i (l ++ [v]) = SM.logRecs g i l ++ [⟨3, g, ((i + l.length : Nat) : Int) + 1, 0, v⟩]
  | [], v, g, i => rfl
  | u :: l, v, g, i => by
    rw [List.cons_append, SM.logRecs, SM.logRecs, logRecs_snoc l v g (i + 1), List.cons_append, List.length_cons]
    congr 4
    push_cast
    omega
theorem logsRecs_snoc : ∀ (ls : List (List ByteArray)) (l : List ByteArray) (g : Nat), SM.logsRecs g (ls ++ [l]) = SM.logsRecs g ls ++ SM.logRecs ((g + ls.length : Nat) : Int) 0 l
  | [], l, g => by simp [SM.logsRecs]
  | k :: ls, l, g => by
    rw [List.cons_append, SM.logsRecs, SM.logsRecs, logsRecs_snoc ls l (g + 1), List.append_assoc, List.length_cons]
    congr 3
    omega
theorem take_snoc {α : Type} {l : List α} {k : Nat} {a : α} (h : l[k]? = some a) : l.take (k + 1) = l.take k ++ [a] := by rw [List.take_add_one, h]; rfl
theorem take_len {α : Type} {l : List α} {k : Nat} {a : α} (h : l[k]? = some a) : (l.take k).length = k := by
  have := (List.getElem?_eq_some_iff.1 h).1
  rw [List.length_take]; omega
theorem many_take (ls : List (List ByteArray)) (g : Nat) (h : ∀ l ∈ ls, SM.logOk l) (h4 : ls.length ≤ 4) : (SM.logsRecs 0 (ls.take g)).length ≤ 800 := by
  rw [SM.logsRecs_len]
  have h1 := SM.many_le (ls.take g) (fun l hl => h l (List.mem_of_mem_take hl))
  have h2 := List.length_take_le g ls
  have h3 : (ls.take g).length ≤ ls.length := by rw [List.length_take]; omega
  omega
theorem snRecs_le (x : Sn) : (SM.snRecs x).length ≤ 2 := by
  unfold SM.snRecs
  rw [List.length_append]
  split <;> split <;> simp
theorem votes_take (vs : List Sn) (k : Nat) (h : vs.length ≤ 805) : ((vs.take k).flatMap SM.snRecs).length ≤ 1610 := by
  have : ∀ (l : List Sn), (l.flatMap SM.snRecs).length ≤ 2 * l.length := by
    intro l
    induction l with
    | nil => simp
    | cons x l ih => rw [List.flatMap_cons, List.length_append, List.length_cons]; have := snRecs_le x; omega
  have h1 := this (vs.take k)
  have h3 : (vs.take k).length ≤ vs.length := by rw [List.length_take]; omega
  omega
set_option maxHeartbeats 16000000 in
theorem rrecords_any (v : Value) (x : Sb) (W : World) (H : StIs W v x) (hm : SM.may x) :
    Calls Try.prog 59 #[v] W fun e w' => ∃ u, e = .returned u ∧ w'.ownsRow W.heap.size 29 5 u (SM.recs x).length (flat rcell (SM.recs x)) ∧ Below W.heap.size W w' := by
  obtain ⟨A, c, B, d, rfl, hL, hV⟩ := H
  obtain ⟨i0, hi, hz0, hz1, hz2⟩ := info_parts info_rec
  obtain ⟨m0, m1, m2⟩ := rows_rd2 hL
  have hvl := SM.votes_le hm
  have h4 := hm.1.2
  have HLO := Lib.hid hm.2.1
  obtain ⟨ls, vs⟩ := x
  simp only at hL hV m1 hvl h4 HLO
  obtain ⟨hR, _, hmd, hdm, hFl⟩ := hV
  unfold maxLen at m2 hdm
  have hb0 : Below W.heap.size W (W.alloc (.cells #[.slice A ls.length c, .slice B vs.length d] 25)) := (Below.refl _ _).alloc (Nat.le_refl _) _
  have HB := Lib.hid hb0
  have Y := Lib.hid (Box.new W 25 #[.slice A ls.length c, .slice B vs.length d])
  have HL := Lib.hid (hL.below hb0)
  have HR := Lib.hid (hR.below hb0)
  have HF := Lib.hid hFl
  have HBS := Lib.hid (show (W.alloc (.cells #[.slice A ls.length c, .slice B vs.length d] 25)).heap.size = W.heap.size + 1 by simp)
  obtain ⟨base, hbase⟩ : ∃ base, W.heap.size + 1 = base := ⟨_, rfl⟩
  rw [hbase] at HBS
  obtain ⟨PV, hPV⟩ : ∃ PV, PV = SM.recs ⟨ls, vs⟩ := ⟨_, rfl⟩
  rw [← hPV]
  have HPV := Lib.hid (show PV = SM.logsRecs 0 ls ++ vs.flatMap SM.snRecs from hPV)
  clear hL hR hFl hb0 m0 hPV hm
  go_enter Try.func59, Try.ntmps59
  go_upto_region 1 with (fail)
  generalize W.alloc (.cells #[.slice A ls.length c, .slice B vs.length d] 25) = w1 at HB Y HL HR HBS ⊢
  obtain ⟨g0, hg0⟩ : ∃ g0, W.heap.size = g0 := ⟨_, rfl⟩
  rw [hg0] at Y
  simp only [hg0]
  have hgb : g0 < base := by omega
  have HG := Lib.hid hg0
  clear hg0
  go_wp2_with fail
  go_loopw [3, 4] (fun u i wr => ∃ (k : Nat) (u0 : Value), k ≤ ls.length ∧ i = .int .i64 k ∧ u0 = u ∧ wr.ownsRow base 29 5 u (SM.logsRecs 0 (ls.take k)).length (flat rcell (SM.logsRecs 0 (ls.take k))) ∧ Hid (Below base w1 wr)) (fun _ i _ => ls.length - (intOf i).toNat)
  case atStart => exact ⟨0, _, Nat.zero_le _, rfl, rfl, World.ownsRow_nil _ _ _ _, Lib.hid (Below.refl _ _)⟩
  case round =>
    obtain ⟨k, u, hk, rfl, rfl, hown, HW⟩ := hrel
    have hbz : base ≤ wr.heap.size := by have := HW.out.size; have := HBS.out; omega
    obtain ⟨x0, x1, _, _⟩ := (Y.out.below HW.out hgb).two
    by_cases hlt : k < ls.length
    · obtain ⟨l, hl⟩ : ∃ l, ls[k]? = some l := ⟨_, List.getElem?_eq_getElem hlt⟩
      have hl200 := (HLO.out l (List.mem_of_getElem? hl)).1
      have HLL := Lib.hid hl
      have HBND := Lib.hid (many_take ls k HLO.out h4)
      have HOW := Lib.hid hown
      clear hl hown
      go_wp2_with fail
      clear x0 x1
      go_loopw [3, 5] (fun u i wr => ∃ (j : Nat) (u0 : Value), j ≤ l.length ∧ i = .int .i64 j ∧ u0 = u ∧ wr.ownsRow base 29 5 u (SM.logsRecs 0 (ls.take k) ++ SM.logRecs k 0 (l.take j)).length (flat rcell (SM.logsRecs 0 (ls.take k) ++ SM.logRecs k 0 (l.take j))) ∧ Hid (Below base w1 wr)) (fun _ i _ => l.length - (intOf i).toNat)
      case atStart => exact ⟨0, _, Nat.zero_le _, rfl, rfl, by have := HOW.out; simpa [SM.logRecs] using this, HW⟩
      case round =>
        clear HW HOW hbz
        obtain ⟨j, u, hj, rfl, rfl, hown, HW⟩ := hrel
        have hbz : base ≤ wr.heap.size := by have := HW.out.size; have := HBS.out; omega
        obtain ⟨x0, x1, _, _⟩ := (Y.out.below HW.out hgb).two
        obtain ⟨ad, C, e, hA, _, q1, q2, q3, q4⟩ := logs_get (HL.out.below (by rw [HBS.out]; exact HW.out)) HLL.out
        subst hA
        unfold maxLen at q4
        have hk0 : (0 : Int) ≤ (k : Int) := by omega
        have hkn : (k : Int) < (ls.length : Int) := by omega
        have HOW := Lib.hid hown
        clear hown
        by_cases hlt2 : j < l.length
        · obtain ⟨t, ht⟩ : ∃ t, l[j]? = some t := ⟨_, List.getElem?_eq_getElem hlt2⟩
          obtain ⟨ad2, hA2, _, q5⟩ := rd_text q2 ht
          subst hA2
          have HB2 := Lib.hid (show (SM.logsRecs 0 (ls.take k) ++ SM.logRecs k 0 (l.take j)).length ≤ 1000 by rw [List.length_append, SM.logRecs_len, List.length_take]; have := HBND.out; omega)
          have HN := Lib.hid (show SM.logsRecs 0 (ls.take k) ++ SM.logRecs k 0 (l.take (j + 1)) = (SM.logsRecs 0 (ls.take k) ++ SM.logRecs k 0 (l.take j)) ++ [⟨3, k, (j : Int) + 1, 0, t⟩] by
            rw [take_snoc ht, logRecs_snoc, take_len ht, Nat.zero_add, List.append_assoc])
          have hj0 : (0 : Int) ≤ (j : Int) := by omega
          have hjn : (j : Int) < (l.length : Int) := by omega
          clear q2 ht
          go_wp2_with (at_builtin; refine wpList_append_g _ rfl _ _ 67 rfl base 29 i0 _ 5 48 Try.underlying67 hi hz0 hz1 hz2 rfl (by omega) u _ _ rfl (own_below3 HOW.out ((Below.refl _ _).alloc (Nat.le_refl _) _)) (some ⟨wr.heap.size, 0, none⟩) 1 1 (rcell ⟨3, k, (j : Int) + 1, 0, t⟩) rfl (rdG_box (Box.new _ 29 #[.int .u8 3, .int .i64 k, .int .i64 ((j : Int) + 1), .int .i64 0, .string t]) rfl rfl) (rc_one _) (by unfold maxLen; have := HB2.out; omega) (by have := HB2.out; omega) (by simp; omega) ?_; intro v2 w2 hown2 hg2 hob2)
          have hbel := below_row (HW.out.alloc hbz (.cells #[.int .u8 3, .int .i64 k, .int .i64 ((j : Int) + 1), .int .i64 0, .string t] 29)) (own_below3 HOW.out ((Below.refl _ _).alloc (Nat.le_refl _) _)) (by simp; omega) hg2
          go_roundw
          case rel => exact ⟨j + 1, _, by omega, by go_num, rfl, by rw [HN.out, List.length_append, flat_append, flat_one]; exact hown2, Lib.hid hbel⟩
          case measure => simp [intOf]; omega
        · have hjl : j = l.length := by omega
          have HN := Lib.hid (show SM.logsRecs 0 (ls.take (k + 1)) = SM.logsRecs 0 (ls.take k) ++ SM.logRecs k 0 (l.take j) by
            rw [take_snoc HLL.out, logsRecs_snoc, take_len HLL.out, Nat.zero_add, List.take_of_length_le (l := l) (i := j) (by omega)])
          clear q2 hjl
          go_wp2_with fail
          go_roundw
          case rel => exact ⟨k + 1, _, by omega, by go_num, rfl, by rw [HN.out]; exact HOW.out, HW⟩
          case measure => simp [intOf]; omega
    · have hkl : ls.length = k := by omega
      subst hkl
      rw [List.take_length] at hown
      have HPB := Lib.hid (many_take ls ls.length HLO.out h4)
      rw [List.take_length] at HPB
      generalize SM.logsRecs 0 ls = PL at HPV HPB hown
      have HOW := Lib.hid hown
      clear hown
      go_wp2_with fail
      clear x0 x1
      go_loopw [3, 6] (fun u i wr => ∃ (k : Nat) (u0 : Value), k ≤ vs.length ∧ i = .int .i64 k ∧ u0 = u ∧ wr.ownsRow base 29 5 u (PL ++ (vs.take k).flatMap SM.snRecs).length (flat rcell (PL ++ (vs.take k).flatMap SM.snRecs)) ∧ Hid (Below base w1 wr)) (fun _ i _ => vs.length - (intOf i).toNat)
      case atStart => exact ⟨0, _, Nat.zero_le _, rfl, rfl, by have := HOW.out; simpa using this, HW⟩
      case round =>
        clear HW HOW hbz
        obtain ⟨k, u, hk, rfl, rfl, hown, HW⟩ := hrel
        have hbz : base ≤ wr.heap.size := by have := HW.out.size; have := HBS.out; omega
        obtain ⟨x0, x1, _, _⟩ := (Y.out.below HW.out hgb).two
        have HBND := Lib.hid (votes_take vs k hvl)
        have HOW := Lib.hid hown
        clear hown
        by_cases hlt : k < vs.length
        · obtain ⟨bl, oo, rfl⟩ := HF.out (by omega)
          obtain ⟨v, hv⟩ : ∃ v, vs[k]? = some v := ⟨_, List.getElem?_eq_getElem hlt⟩
          obtain ⟨a0, a1, a2, a3, a4⟩ := rdg_sn (HR.out.below (by rw [HBS.out]; exact HW.out)) hv
          have HN := Lib.hid (show PL ++ (vs.take (k + 1)).flatMap SM.snRecs = (PL ++ (vs.take k).flatMap SM.snRecs) ++ SM.snRecs v by rw [take_snoc hv, List.flatMap_append, List.flatMap_singleton, List.append_assoc])
          obtain ⟨Q, hQ⟩ : ∃ Q, Q = PL ++ (vs.take k).flatMap SM.snRecs := ⟨_, rfl⟩
          have HQB := Lib.hid (show Q.length ≤ 2500 by rw [hQ, List.length_append]; have := HBND.out; have := HPB.out; omega)
          rw [← hQ] at HN HOW
          clear hQ hv HBND
          obtain ⟨g, s, p, b, t⟩ := v
          simp only at a0 a1 a2 a3 a4
          have hk0 : (0 : Int) ≤ (k : Int) := by omega
          have hkn : (k : Int) < (vs.length : Int) := by omega
          go_upto_region 13 with (fail)
          clear x0 x1 a0 a1 a2 a3 a4
          have Z := Lib.hid (Box.new wr 75 #[.int .i64 g, .int .i64 s, .int .i64 p, .int .i64 b, .string t])
          have hba : Below wr.heap.size wr (wr.alloc (.cells #[.int .i64 g, .int .i64 s, .int .i64 p, .int .i64 b, .string t] 75)) := (Below.refl _ _).alloc (Nat.le_refl _) _
          replace HOW := Lib.hid (own_below3 HOW.out hba)
          replace HW := Lib.hid (HW.out.alloc hbz (.cells #[.int .i64 g, .int .i64 s, .int .i64 p, .int .i64 b, .string t] 75))
          have hbz3 : base ≤ (wr.alloc (.cells #[.int .i64 g, .int .i64 s, .int .i64 p, .int .i64 b, .string t] 75)).heap.size := by simp; omega
          clear hba
          generalize wr.alloc (.cells #[.int .i64 g, .int .i64 s, .int .i64 p, .int .i64 b, .string t] 75) = w3 at Z HOW HW hbz3 ⊢
          generalize wr.heap.size = h at Z ⊢
          obtain ⟨c0, c1, c2, c3, c4⟩ := (show _ ∧ _ ∧ _ ∧ _ ∧ _ from ⟨Z.out.cell 0, Z.out.cell 1, Z.out.cell 2, Z.out.cell 3, Z.out.cell 4⟩)
          simp at c0 c1 c2 c3 c4
          by_cases hb : 0 < b
          · go_upto_region 15 with (at_builtin; refine wpList_append_g _ rfl _ _ 67 rfl base 29 i0 _ 5 48 Try.underlying67 hi hz0 hz1 hz2 rfl (by omega) _ _ _ rfl (own_below3 HOW.out ((Below.refl _ _).alloc (Nat.le_refl _) _)) (some ⟨w3.heap.size, 0, none⟩) 1 1 (rcell (⟨2, g, s, b, t⟩ : Rc)) rfl (rdG_box (Box.new _ 29 #[.int .u8 2, .int .i64 g, .int .i64 s, .int .i64 b, .string t]) rfl rfl) (rc_one _) (by unfold maxLen; have := HQB.out; omega) (by have := HQB.out; omega) (by simp; omega) ?_; intro v2 w2 hown2 hg2 hob2)
            have hbel := below_row (HW.out.alloc hbz3 (.cells #[.int .u8 2, .int .i64 g, .int .i64 s, .int .i64 b, .string t] 29)) (own_below3 HOW.out ((Below.refl _ _).alloc (Nat.le_refl _) _)) (by simp; omega) hg2
            have HOW2 := Lib.hid (show w2.ownsRow base 29 5 v2 (Q ++ [(⟨2, g, s, b, t⟩ : Rc)]).length (flat rcell (Q ++ [(⟨2, g, s, b, t⟩ : Rc)])) by rw [List.length_append, flat_append, flat_one]; exact hown2)
            have HW2 := Lib.hid hbel
            have HQ2 := Lib.hid (show (Q ++ [(⟨2, g, s, b, t⟩ : Rc)]).length ≤ 2501 by rw [List.length_append]; have := HQB.out; simp; omega)
            have hbz4 : base ≤ w2.heap.size := Nat.le_trans (by simp; omega) hg2.size
            have hZ2 : Box w2 h 75 #[.int .i64 g, .int .i64 s, .int .i64 p, .int .i64 b, .string t] := by
              refine (Z.out.alloc _).grown hg2 (fun e => ?_)
              obtain ⟨_, cur, hx⟩ := own_block (own_below3 HOW.out ((Below.refl _ _).alloc (Nat.le_refl _) (.cells #[.int .u8 2, .int .i64 g, .int .i64 s, .int .i64 b, .string t] 29))) e.symm
              have hz := Z.out.alloc (.cells #[.int .u8 2, .int .i64 g, .int .i64 s, .int .i64 b, .string t] 29)
              rw [Box] at hx hz
              rw [hx] at hz
              injection hz with hz
              injection hz with _ hz
              revert hz; decide
            clear c0 c1 c2 c3 c4 HOW HW hown2 hbel hg2 hob2
            replace Z := Lib.hid hZ2
            clear hZ2
            obtain ⟨c0, c1, c2, c3, c4⟩ := (show _ ∧ _ ∧ _ ∧ _ ∧ _ from ⟨Z.out.cell 0, Z.out.cell 1, Z.out.cell 2, Z.out.cell 3, Z.out.cell 4⟩)
            simp at c0 c1 c2 c3 c4
            by_cases hp : b < p
            · have HN2 := Lib.hid (show PL ++ (vs.take (k + 1)).flatMap SM.snRecs = (Q ++ [(⟨2, g, s, b, t⟩ : Rc)]) ++ [(⟨1, g, s, p, .empty⟩ : Rc)] by rw [HN.out]; unfold SM.snRecs; simp only; rw [if_pos hp, if_pos hb]; simp)
              go_wp2_with (at_builtin; refine wpList_append_g _ rfl _ _ 67 rfl base 29 i0 _ 5 48 Try.underlying67 hi hz0 hz1 hz2 rfl (by omega) _ _ _ rfl (own_below3 HOW2.out ((Below.refl _ _).alloc (Nat.le_refl _) _)) (some ⟨w2.heap.size, 0, none⟩) 1 1 (rcell (⟨1, g, s, p, .empty⟩ : Rc)) rfl (rdG_box (Box.new _ 29 #[.int .u8 1, .int .i64 g, .int .i64 s, .int .i64 p, .string ⟨#[]⟩]) rfl rfl) (rc_one _) (by unfold maxLen; have := HQ2.out; omega) (by have := HQ2.out; omega) (by simp; omega) ?_; intro v2 w2 hown2 hg2 hob2)
              have hbel := below_row (HW2.out.alloc hbz4 (.cells #[.int .u8 1, .int .i64 g, .int .i64 s, .int .i64 p, .string ⟨#[]⟩] 29)) (own_below3 HOW2.out ((Below.refl _ _).alloc (Nat.le_refl _) _)) (by simp; omega) hg2
              go_roundw
              case rel => exact ⟨k + 1, _, by omega, by go_num, rfl, by rw [HN2.out, List.length_append, flat_append, flat_one]; exact hown2, Lib.hid hbel⟩
              case measure => simp [intOf]; omega
            · have HN2 := Lib.hid (show PL ++ (vs.take (k + 1)).flatMap SM.snRecs = (Q ++ [(⟨2, g, s, b, t⟩ : Rc)]) by rw [HN.out]; unfold SM.snRecs; simp only; rw [if_neg hp, if_pos hb]; simp)
              go_wp2_with fail
              go_roundw
              case rel => exact ⟨k + 1, _, by omega, by go_num, rfl, by rw [HN2.out]; exact HOW2.out, Lib.hid HW2.out⟩
              case measure => simp [intOf]; omega
          · skip
            by_cases hp : b < p
            · have HN2 := Lib.hid (show PL ++ (vs.take (k + 1)).flatMap SM.snRecs = Q ++ [(⟨1, g, s, p, .empty⟩ : Rc)] by rw [HN.out]; unfold SM.snRecs; simp only; rw [if_pos hp, if_neg hb]; simp)
              go_wp2_with (at_builtin; refine wpList_append_g _ rfl _ _ 67 rfl base 29 i0 _ 5 48 Try.underlying67 hi hz0 hz1 hz2 rfl (by omega) _ _ _ rfl (own_below3 HOW.out ((Below.refl _ _).alloc (Nat.le_refl _) _)) (some ⟨w3.heap.size, 0, none⟩) 1 1 (rcell (⟨1, g, s, p, .empty⟩ : Rc)) rfl (rdG_box (Box.new _ 29 #[.int .u8 1, .int .i64 g, .int .i64 s, .int .i64 p, .string ⟨#[]⟩]) rfl rfl) (rc_one _) (by unfold maxLen; have := HQB.out; omega) (by have := HQB.out; omega) (by simp; omega) ?_; intro v2 w2 hown2 hg2 hob2)
              have hbel := below_row (HW.out.alloc hbz3 (.cells #[.int .u8 1, .int .i64 g, .int .i64 s, .int .i64 p, .string ⟨#[]⟩] 29)) (own_below3 HOW.out ((Below.refl _ _).alloc (Nat.le_refl _) _)) (by simp; omega) hg2
              go_roundw
              case rel => exact ⟨k + 1, _, by omega, by go_num, rfl, by rw [HN2.out, List.length_append, flat_append, flat_one]; exact hown2, Lib.hid hbel⟩
              case measure => simp [intOf]; omega
            · have HN2 := Lib.hid (show PL ++ (vs.take (k + 1)).flatMap SM.snRecs = Q by rw [HN.out]; unfold SM.snRecs; simp only; rw [if_neg hp, if_neg hb]; simp)
              go_wp2_with fail
              go_roundw
              case rel => exact ⟨k + 1, _, by omega, by go_num, rfl, by rw [HN2.out]; exact HOW.out, Lib.hid HW.out⟩
              case measure => simp [intOf]; omega
        · have hkl : vs.length = k := by omega
          subst hkl
          have hend := HOW.out
          rw [List.take_length, ← HPV.out] at hend
          clear HOW
          go_wp2_with fail
          go_ret
          exact ⟨_, rfl, own_base hend (by have := HG.out; omega), HB.out.trans (HW.out.mono (by have := HG.out; omega))⟩
end Go.Proofs.Ytohiemdodffhoaa.SP

namespace Go.Proofs.Ytohiemdodffhoaa.RP
open Go.RowKit
set_option linter.unusedVariables false
set_option linter.unusedSimpArgs false

theorem str_of {w : World} {A : Option Addr} {n : Nat} {l : List UInt8} (h : Rd w A n (bc l)) (cap : Nat) : (convert 94 9 (.slice A n cap)).run Try.prog w = .ok (.string ⟨l.toArray⟩) w :=
  run_string_of _ _ _ 5 _ _ cap _ Try.underlying94 Try.underlying5 Try.underlying9 h
theorem enc_small {n : Nat} (h : n < 128) : NM.enc n = [UInt8.ofNat n] := by
  unfold NM.enc NM.encF
  rw [if_pos h]
/-- two bytes that were just laid -/
theorem own_two (w : World) (k x : Nat) (hk : k < 128) (hx : x < 128) : (w.alloc (.cells #[.int .u8 k, .int .u8 x] 5)).ownsRow w.heap.size 5 1 (.slice (some ⟨w.heap.size, 0, none⟩) 2 2) (NM.enc k ++ NM.enc x).length (bc (NM.enc k ++ NM.enc x)) := by
  have e : bc (NM.enc k ++ NM.enc x) = [.int .u8 k, .int .u8 x] := by
    rw [enc_small hk, enc_small hx]
    unfold bc
    simp
    omega
  have el : (NM.enc k ++ NM.enc x).length = 2 := by rw [enc_small hk, enc_small hx]; rfl
  rw [e, el]
  exact ⟨rfl, .inr ⟨w.heap.size, 2, _, rfl, Nat.le_refl _, Box.new w _ _, by omega, by unfold maxLen; omega, rfl, rfl⟩⟩
/-- the text so far: bytes of the call's own behind the record's variable -/
def Tx (w0 w : World) (v : Value) (pre : List UInt8) (R : Array Value) : Prop :=
  Box w w0.heap.size 29 R ∧ w.ownsRow (w0.heap.size + 1) 5 1 v pre.length (bc pre) ∧ Below w0.heap.size w0 w
theorem Tx.below {w0 w w' : World} {v : Value} {pre : List UInt8} {R : Array Value} (h : Tx w0 w v pre R) (hb : Below w.heap.size w w') : Tx w0 w' v pre R :=
  ⟨h.1.below hb h.1.lt, own_below h.2.1 hb, bmore h.2.2 hb (Nat.le_refl _)⟩
theorem rown_ge {w : World} {base : Nat} {e : TypeId} {v : Value} {n : Nat} {xs : List Value} (h : w.ownsRow base e 1 v n xs) : ∀ k, v.ownBlock = some k → base ≤ k := by
  intro k hk
  rcases h.2 with ⟨rfl, _⟩ | ⟨g', cap, cur, rfl, hb, _⟩
  · simp [Value.ownBlock] at hk
  · simp [Value.ownBlock] at hk; omega
theorem Tx.more {w0 w w' : World} {v v' : Value} {pre l : List UInt8} {n : Nat} {R : Array Value} (h : Tx w0 w v pre R) (hg : w.grownBy w' v.ownBlock) (ho : w'.ownsRow (w0.heap.size + 1) 5 1 v' (pre.length + n) (bc pre ++ bc l)) (hn : l.length = n) : Tx w0 w' v' (pre ++ l) R := by
  have hge := rown_ge h.2.1
  refine ⟨(hg.block _ h.1.lt (fun e => by have := hge _ e.symm; omega)).trans h.1, ?_, h.2.2.grown hg h.2.2.size (fun k hk => by have := hge k hk; omega)⟩
  rw [List.length_append, bc_append, hn]
  exact ho
theorem bytes_a (n : Nat) (w : World) (hn : n ≤ 1099511627776) :
    Calls Try.prog 84 #[.int .i64 n] w fun e w' => ∃ A c, e = .returned (.slice A (NM.enc n).length c) ∧ Rd w' A (NM.enc n).length (bc (NM.enc n)) ∧ Below w.heap.size w w' := by
  refine (refBytes_any n w hn).mono ?_
  rintro e w' ⟨v, rfl, ho, hb⟩
  obtain ⟨A, c, rfl, _, _⟩ := own_slice ho
  exact ⟨A, c, rfl, Rd.of_own ho, hb⟩
theorem tbytes_a (v : ByteArray) (w : World) (hn : v.size ≤ 4096) :
    Calls Try.prog 85 #[.string v] w fun e w' => ∃ A c, e = .returned (.slice A (NM.text (RM.bsz v)).length c) ∧ Rd w' A (NM.text (RM.bsz v)).length (bc (NM.text (RM.bsz v))) ∧ Below w.heap.size w w' := by
  refine (refTextBytes v w hn).mono ?_
  rintro e w' ⟨u, rfl, ho, hb⟩
  obtain ⟨A, c, rfl, _, _⟩ := own_slice ho
  exact ⟨A, c, rfl, Rd.of_own ho, hb⟩

set_option maxRecDepth 100000 in
set_option maxHeartbeats 4000000 in
theorem text1 (g s : Int) (b : Int) (w : World) (h : RM.may ⟨1, g, s, b, .empty⟩) :
    Calls Try.prog 60 #[.agg #[.int .u8 1, .int .i64 g, .int .i64 s, .int .i64 b, .string .empty]] w fun e w' => e = .returned (.string ⟨(RM.wr ⟨1, g, s, b, .empty⟩).toArray⟩) ∧ Below w.heap.size w w' := by
  obtain ⟨i0, hi, hz0, hz1, hz2⟩ := info_parts info_u8
  have hb := RM.may_b h
  have hv := RM.may_v h
  have hg := h.1
  have hs := h.2.1
  simp only at hb hv hg hs
  obtain ⟨x, rfl⟩ : ∃ x : Nat, g = x := ⟨g.toNat, by omega⟩
  obtain ⟨y, rfl⟩ : ∃ y : Nat, s = y := ⟨s.toNat, by omega⟩
  obtain ⟨z, rfl⟩ : ∃ z : Nat, b = z := ⟨b.toNat, by omega⟩
  have hB := Lib.hid (show Below w.heap.size w (w.alloc (.cells #[.int .u8 1, .int .i64 x, .int .i64 y, .int .i64 z, .string .empty] 29)) from (Below.refl _ _).alloc (Nat.le_refl _) _)
  have R0 := Lib.hid (Box.new w 29 #[.int .u8 1, .int .i64 x, .int .i64 y, .int .i64 z, .string .empty])
  have HW := Lib.hid (show NM.enc 1 ++ NM.enc x ++ NM.enc y ++ NM.enc z = RM.wr ⟨1, x, y, z, .empty⟩ by unfold RM.wr; simp)
  have hx : x ≤ 3 := by omega
  have hxm := Lib.hid (show (x : Int) % 256 = (x : Int) by omega)
  have hy : y ≤ 1099511627776 := by omega
  have hz : z ≤ 1099511627776 := by omega
  have lx := NM.enc_le x
  have ly := NM.enc_le y
  have lz := NM.enc_le z
  have lk := NM.enc_le 1
  clear h hb hg hs hv
  go_enter Try.func60, Try.ntmps60
  go_upto_region 2 with (fail)
  try simp only [hxm.out]
  have T : Hid (Tx w ((w.alloc (.cells #[.int .u8 1, .int .i64 x, .int .i64 y, .int .i64 z, .string .empty] 29)).alloc (.cells #[.int .u8 1, .int .u8 x] 5)) (.slice (some ⟨w.heap.size + 1, 0, none⟩) 2 2) (NM.enc 1 ++ NM.enc x) #[.int .u8 1, .int .i64 x, .int .i64 y, .int .i64 z, .string .empty]) :=
    Lib.hid ⟨R0.out.alloc _, by have := own_two (w.alloc (.cells #[.int .u8 1, .int .i64 x, .int .i64 y, .int .i64 z, .string .empty] 29)) 1 x (by omega) (by omega); simpa using this, hB.out.alloc (by simp) _⟩
  generalize (w.alloc (.cells #[.int .u8 1, .int .i64 x, .int .i64 y, .int .i64 z, .string .empty] 29)).alloc (.cells #[.int .u8 1, .int .u8 x] 5) = w1 at T ⊢
  clear hB R0
  obtain ⟨c0, c1, c2, c3, c4⟩ := (show _ ∧ _ ∧ _ ∧ _ ∧ _ from ⟨T.out.1.cell 0, T.out.1.cell 1, T.out.1.cell 2, T.out.1.cell 3, T.out.1.cell 4⟩)
  simp at c0 c1 c2 c3 c4
  go_wp2_with fail
  clear c0 c1 c2 c3 c4
  refine (bytes_a y _ hy).mono ?_
  rintro e w4 ⟨A0, q0, rfl, hr, hb⟩
  replace T := Lib.hid (T.out.below hb); clear hb
  have hsz := T.out.1.lt
  have HR := Lib.hid hr; clear hr
  go_upto_region 3 with (at_builtin; refine wpList_append_rd _ rfl _ _ 94 rfl (w.heap.size + 1) 5 i0 (.int .u8 0) 1 Try.underlying94 hi hz0 hz1 hz2 rfl _ _ _ rfl T.out.2.1 A0 _ q0 (bc (NM.enc y)) rfl HR.out (bc_one _) (by unfold maxLen; simp only [List.length_append]; omega) (by simp only [List.length_append]; omega) hsz ?_; intro v0 w5 hown hgr hob)
  replace T := Lib.hid (T.out.more hgr hown rfl); clear hgr hown hob hsz HR
  obtain ⟨c0, c1, c2, c3, c4⟩ := (show _ ∧ _ ∧ _ ∧ _ ∧ _ from ⟨T.out.1.cell 0, T.out.1.cell 1, T.out.1.cell 2, T.out.1.cell 3, T.out.1.cell 4⟩)
  simp at c0 c1 c2 c3 c4
  go_wp2_with fail
  clear c0 c1 c2 c3 c4
  refine (bytes_a z _ hz).mono ?_
  rintro e w4 ⟨A1, q1, rfl, hr, hb⟩
  replace T := Lib.hid (T.out.below hb); clear hb
  have hsz := T.out.1.lt
  have HR := Lib.hid hr; clear hr
  go_upto_region 5 with (at_builtin; refine wpList_append_rd _ rfl _ _ 94 rfl (w.heap.size + 1) 5 i0 (.int .u8 0) 1 Try.underlying94 hi hz0 hz1 hz2 rfl _ _ _ rfl T.out.2.1 A1 _ q1 (bc (NM.enc z)) rfl HR.out (bc_one _) (by unfold maxLen; simp only [List.length_append]; omega) (by simp only [List.length_append]; omega) hsz ?_; intro v1 w5 hown hgr hob)
  replace T := Lib.hid (T.out.more hgr hown rfl); clear hgr hown hob hsz HR
  obtain ⟨c0, c1, c2, c3, c4⟩ := (show _ ∧ _ ∧ _ ∧ _ ∧ _ from ⟨T.out.1.cell 0, T.out.1.cell 1, T.out.1.cell 2, T.out.1.cell 3, T.out.1.cell 4⟩)
  simp at c0 c1 c2 c3 c4
  rw [HW.out] at T
  obtain ⟨A, q, rfl, _, _⟩ := own_slice T.out.2.1
  have hc := str_of (Rd.of_own T.out.2.1) q
  go_wp2_with fail
  go_ret
  exact ⟨rfl, T.out.2.2⟩

set_option maxRecDepth 100000 in
set_option maxHeartbeats 4000000 in
theorem text2 (g s : Int) (b : Int) (v : ByteArray) (w : World) (h : RM.may ⟨2, g, s, b, v⟩) :
    Calls Try.prog 60 #[.agg #[.int .u8 2, .int .i64 g, .int .i64 s, .int .i64 b, .string v]] w fun e w' => e = .returned (.string ⟨(RM.wr ⟨2, g, s, b, v⟩).toArray⟩) ∧ Below w.heap.size w w' := by
  obtain ⟨i0, hi, hz0, hz1, hz2⟩ := info_parts info_u8
  have hb := RM.may_b h
  have hv := RM.may_v h
  have hg := h.1
  have hs := h.2.1
  simp only at hb hv hg hs
  obtain ⟨x, rfl⟩ : ∃ x : Nat, g = x := ⟨g.toNat, by omega⟩
  obtain ⟨y, rfl⟩ : ∃ y : Nat, s = y := ⟨s.toNat, by omega⟩
  obtain ⟨z, rfl⟩ : ∃ z : Nat, b = z := ⟨b.toNat, by omega⟩
  have hB := Lib.hid (show Below w.heap.size w (w.alloc (.cells #[.int .u8 2, .int .i64 x, .int .i64 y, .int .i64 z, .string v] 29)) from (Below.refl _ _).alloc (Nat.le_refl _) _)
  have R0 := Lib.hid (Box.new w 29 #[.int .u8 2, .int .i64 x, .int .i64 y, .int .i64 z, .string v])
  have HW := Lib.hid (show NM.enc 2 ++ NM.enc x ++ NM.enc y ++ NM.enc z ++ NM.text (RM.bsz v) = RM.wr ⟨2, x, y, z, v⟩ by unfold RM.wr; simp)
  have hx : x ≤ 3 := by omega
  have hxm := Lib.hid (show (x : Int) % 256 = (x : Int) by omega)
  have hy : y ≤ 1099511627776 := by omega
  have hz : z ≤ 1099511627776 := by omega
  have hv4 : v.size ≤ 4096 := by omega
  have lt : (NM.text (RM.bsz v)).length ≤ 1100 := by unfold NM.text; rw [List.length_append, RM.bsz_len]; have := NM.enc_le v.size; omega
  have lx := NM.enc_le x
  have ly := NM.enc_le y
  have lz := NM.enc_le z
  have lk := NM.enc_le 2
  clear h hb hg hs hv
  go_enter Try.func60, Try.ntmps60
  go_upto_region 2 with (fail)
  try simp only [hxm.out]
  have T : Hid (Tx w ((w.alloc (.cells #[.int .u8 2, .int .i64 x, .int .i64 y, .int .i64 z, .string v] 29)).alloc (.cells #[.int .u8 2, .int .u8 x] 5)) (.slice (some ⟨w.heap.size + 1, 0, none⟩) 2 2) (NM.enc 2 ++ NM.enc x) #[.int .u8 2, .int .i64 x, .int .i64 y, .int .i64 z, .string v]) :=
    Lib.hid ⟨R0.out.alloc _, by have := own_two (w.alloc (.cells #[.int .u8 2, .int .i64 x, .int .i64 y, .int .i64 z, .string v] 29)) 2 x (by omega) (by omega); simpa using this, hB.out.alloc (by simp) _⟩
  generalize (w.alloc (.cells #[.int .u8 2, .int .i64 x, .int .i64 y, .int .i64 z, .string v] 29)).alloc (.cells #[.int .u8 2, .int .u8 x] 5) = w1 at T ⊢
  clear hB R0
  obtain ⟨c0, c1, c2, c3, c4⟩ := (show _ ∧ _ ∧ _ ∧ _ ∧ _ from ⟨T.out.1.cell 0, T.out.1.cell 1, T.out.1.cell 2, T.out.1.cell 3, T.out.1.cell 4⟩)
  simp at c0 c1 c2 c3 c4
  go_wp2_with fail
  clear c0 c1 c2 c3 c4
  refine (bytes_a y _ hy).mono ?_
  rintro e w4 ⟨A0, q0, rfl, hr, hb⟩
  replace T := Lib.hid (T.out.below hb); clear hb
  have hsz := T.out.1.lt
  have HR := Lib.hid hr; clear hr
  go_upto_region 3 with (at_builtin; refine wpList_append_rd _ rfl _ _ 94 rfl (w.heap.size + 1) 5 i0 (.int .u8 0) 1 Try.underlying94 hi hz0 hz1 hz2 rfl _ _ _ rfl T.out.2.1 A0 _ q0 (bc (NM.enc y)) rfl HR.out (bc_one _) (by unfold maxLen; simp only [List.length_append]; omega) (by simp only [List.length_append]; omega) hsz ?_; intro v0 w5 hown hgr hob)
  replace T := Lib.hid (T.out.more hgr hown rfl); clear hgr hown hob hsz HR
  obtain ⟨c0, c1, c2, c3, c4⟩ := (show _ ∧ _ ∧ _ ∧ _ ∧ _ from ⟨T.out.1.cell 0, T.out.1.cell 1, T.out.1.cell 2, T.out.1.cell 3, T.out.1.cell 4⟩)
  simp at c0 c1 c2 c3 c4
  go_wp2_with fail
  clear c0 c1 c2 c3 c4
  refine (bytes_a z _ hz).mono ?_
  rintro e w4 ⟨A1, q1, rfl, hr, hb⟩
  replace T := Lib.hid (T.out.below hb); clear hb
  have hsz := T.out.1.lt
  have HR := Lib.hid hr; clear hr
  go_upto_region 5 with (at_builtin; refine wpList_append_rd _ rfl _ _ 94 rfl (w.heap.size + 1) 5 i0 (.int .u8 0) 1 Try.underlying94 hi hz0 hz1 hz2 rfl _ _ _ rfl T.out.2.1 A1 _ q1 (bc (NM.enc z)) rfl HR.out (bc_one _) (by unfold maxLen; simp only [List.length_append]; omega) (by simp only [List.length_append]; omega) hsz ?_; intro v1 w5 hown hgr hob)
  replace T := Lib.hid (T.out.more hgr hown rfl); clear hgr hown hob hsz HR
  obtain ⟨c0, c1, c2, c3, c4⟩ := (show _ ∧ _ ∧ _ ∧ _ ∧ _ from ⟨T.out.1.cell 0, T.out.1.cell 1, T.out.1.cell 2, T.out.1.cell 3, T.out.1.cell 4⟩)
  simp at c0 c1 c2 c3 c4
  go_wp2_with fail
  clear c0 c1 c2 c3 c4
  refine (tbytes_a v _ hv4).mono ?_
  rintro e w4 ⟨A2, q2, rfl, hr, hb⟩
  replace T := Lib.hid (T.out.below hb); clear hb
  have hsz := T.out.1.lt
  have HR := Lib.hid hr; clear hr
  go_upto_region 7 with (at_builtin; refine wpList_append_rd _ rfl _ _ 94 rfl (w.heap.size + 1) 5 i0 (.int .u8 0) 1 Try.underlying94 hi hz0 hz1 hz2 rfl _ _ _ rfl T.out.2.1 A2 _ q2 (bc (NM.text (RM.bsz v))) rfl HR.out (bc_one _) (by unfold maxLen; simp only [List.length_append]; omega) (by simp only [List.length_append]; omega) hsz ?_; intro v2 w5 hown hgr hob)
  replace T := Lib.hid (T.out.more hgr hown rfl); clear hgr hown hob hsz HR
  obtain ⟨c0, c1, c2, c3, c4⟩ := (show _ ∧ _ ∧ _ ∧ _ ∧ _ from ⟨T.out.1.cell 0, T.out.1.cell 1, T.out.1.cell 2, T.out.1.cell 3, T.out.1.cell 4⟩)
  simp at c0 c1 c2 c3 c4
  rw [HW.out] at T
  obtain ⟨A, q, rfl, _, _⟩ := own_slice T.out.2.1
  have hc := str_of (Rd.of_own T.out.2.1) q
  go_wp2_with fail
  go_ret
  exact ⟨rfl, T.out.2.2⟩

set_option maxRecDepth 100000 in
set_option maxHeartbeats 4000000 in
theorem text3 (g s : Int) (v : ByteArray) (w : World) (h : RM.may ⟨3, g, s, 0, v⟩) :
    Calls Try.prog 60 #[.agg #[.int .u8 3, .int .i64 g, .int .i64 s, .int .i64 0, .string v]] w fun e w' => e = .returned (.string ⟨(RM.wr ⟨3, g, s, 0, v⟩).toArray⟩) ∧ Below w.heap.size w w' := by
  obtain ⟨i0, hi, hz0, hz1, hz2⟩ := info_parts info_u8
  have hb := RM.may_b h
  have hv := RM.may_v h
  have hg := h.1
  have hs := h.2.1
  simp only at hb hv hg hs
  obtain ⟨x, rfl⟩ : ∃ x : Nat, g = x := ⟨g.toNat, by omega⟩
  obtain ⟨y, rfl⟩ : ∃ y : Nat, s = y := ⟨s.toNat, by omega⟩
  have hB := Lib.hid (show Below w.heap.size w (w.alloc (.cells #[.int .u8 3, .int .i64 x, .int .i64 y, .int .i64 0, .string v] 29)) from (Below.refl _ _).alloc (Nat.le_refl _) _)
  have R0 := Lib.hid (Box.new w 29 #[.int .u8 3, .int .i64 x, .int .i64 y, .int .i64 0, .string v])
  have HW := Lib.hid (show NM.enc 3 ++ NM.enc x ++ NM.enc y ++ NM.text (RM.bsz v) = RM.wr ⟨3, x, y, 0, v⟩ by unfold RM.wr; simp)
  have hx : x ≤ 3 := by omega
  have hxm := Lib.hid (show (x : Int) % 256 = (x : Int) by omega)
  have hy : y ≤ 1099511627776 := by omega
  have hv4 : v.size ≤ 4096 := by omega
  have lt : (NM.text (RM.bsz v)).length ≤ 1100 := by unfold NM.text; rw [List.length_append, RM.bsz_len]; have := NM.enc_le v.size; omega
  have lx := NM.enc_le x
  have ly := NM.enc_le y
  have lk := NM.enc_le 3
  clear h hb hg hs hv
  go_enter Try.func60, Try.ntmps60
  go_upto_region 2 with (fail)
  try simp only [hxm.out]
  have T : Hid (Tx w ((w.alloc (.cells #[.int .u8 3, .int .i64 x, .int .i64 y, .int .i64 0, .string v] 29)).alloc (.cells #[.int .u8 3, .int .u8 x] 5)) (.slice (some ⟨w.heap.size + 1, 0, none⟩) 2 2) (NM.enc 3 ++ NM.enc x) #[.int .u8 3, .int .i64 x, .int .i64 y, .int .i64 0, .string v]) :=
    Lib.hid ⟨R0.out.alloc _, by have := own_two (w.alloc (.cells #[.int .u8 3, .int .i64 x, .int .i64 y, .int .i64 0, .string v] 29)) 3 x (by omega) (by omega); simpa using this, hB.out.alloc (by simp) _⟩
  generalize (w.alloc (.cells #[.int .u8 3, .int .i64 x, .int .i64 y, .int .i64 0, .string v] 29)).alloc (.cells #[.int .u8 3, .int .u8 x] 5) = w1 at T ⊢
  clear hB R0
  obtain ⟨c0, c1, c2, c3, c4⟩ := (show _ ∧ _ ∧ _ ∧ _ ∧ _ from ⟨T.out.1.cell 0, T.out.1.cell 1, T.out.1.cell 2, T.out.1.cell 3, T.out.1.cell 4⟩)
  simp at c0 c1 c2 c3 c4
  go_wp2_with fail
  clear c0 c1 c2 c3 c4
  refine (bytes_a y _ hy).mono ?_
  rintro e w4 ⟨A0, q0, rfl, hr, hb⟩
  replace T := Lib.hid (T.out.below hb); clear hb
  have hsz := T.out.1.lt
  have HR := Lib.hid hr; clear hr
  go_upto_region 3 with (at_builtin; refine wpList_append_rd _ rfl _ _ 94 rfl (w.heap.size + 1) 5 i0 (.int .u8 0) 1 Try.underlying94 hi hz0 hz1 hz2 rfl _ _ _ rfl T.out.2.1 A0 _ q0 (bc (NM.enc y)) rfl HR.out (bc_one _) (by unfold maxLen; simp only [List.length_append]; omega) (by simp only [List.length_append]; omega) hsz ?_; intro v0 w5 hown hgr hob)
  replace T := Lib.hid (T.out.more hgr hown rfl); clear hgr hown hob hsz HR
  obtain ⟨c0, c1, c2, c3, c4⟩ := (show _ ∧ _ ∧ _ ∧ _ ∧ _ from ⟨T.out.1.cell 0, T.out.1.cell 1, T.out.1.cell 2, T.out.1.cell 3, T.out.1.cell 4⟩)
  simp at c0 c1 c2 c3 c4
  go_wp2_with fail
  clear c0 c1 c2 c3 c4
  refine (tbytes_a v _ hv4).mono ?_
  rintro e w4 ⟨A1, q1, rfl, hr, hb⟩
  replace T := Lib.hid (T.out.below hb); clear hb
  have hsz := T.out.1.lt
  have HR := Lib.hid hr; clear hr
  go_upto_region 7 with (at_builtin; refine wpList_append_rd _ rfl _ _ 94 rfl (w.heap.size + 1) 5 i0 (.int .u8 0) 1 Try.underlying94 hi hz0 hz1 hz2 rfl _ _ _ rfl T.out.2.1 A1 _ q1 (bc (NM.text (RM.bsz v))) rfl HR.out (bc_one _) (by unfold maxLen; simp only [List.length_append]; omega) (by simp only [List.length_append]; omega) hsz ?_; intro v1 w5 hown hgr hob)
  replace T := Lib.hid (T.out.more hgr hown rfl); clear hgr hown hob hsz HR
  obtain ⟨c0, c1, c2, c3, c4⟩ := (show _ ∧ _ ∧ _ ∧ _ ∧ _ from ⟨T.out.1.cell 0, T.out.1.cell 1, T.out.1.cell 2, T.out.1.cell 3, T.out.1.cell 4⟩)
  simp at c0 c1 c2 c3 c4
  rw [HW.out] at T
  obtain ⟨A, q, rfl, _, _⟩ := own_slice T.out.2.1
  have hc := str_of (Rd.of_own T.out.2.1) q
  go_wp2_with fail
  go_ret
  exact ⟨rfl, T.out.2.2⟩

end Go.Proofs.Ytohiemdodffhoaa.RP

namespace Go.Proofs.Ytohiemdodffhoaa.SP
open Go.RowKit
open SM (Sn Sb Vo)
open RM (Rc)
set_option linter.unusedVariables false
set_option linter.unusedSimpArgs false
set_option maxRecDepth 100000

theorem rtext_any (r : Rc) (w : World) (h : RM.may r) :
    Calls Try.prog 60 #[.agg #[.int .u8 r.k, .int .i64 r.g, .int .i64 r.s, .int .i64 r.b, .string r.v]] w fun e w' => e = .returned (.string ⟨(RM.wr r).toArray⟩) ∧ Below w.heap.size w w' := by
  obtain ⟨k, g, s, b, v⟩ := r
  rcases h.2.2 with ⟨hk, hb, hv⟩ | ⟨hk, hb, hv⟩ | ⟨hk, hb, hv⟩ <;> simp only at hk hb hv
  · subst hk hv
    exact RP.text1 g s b w h
  · subst hk
    exact RP.text2 g s b v w h
  · subst hk hb
    exact RP.text3 g s v w h
/-- the texts -/
def img (l : List Rc) : List ByteArray := l.map fun r => ⟨(RM.wr r).toArray⟩
theorem rc_cells {w : World} {q m k : Nat} {l : List Rc} {r : Rc} (h : RdG w 5 (some ⟨q, 0, none⟩) m (flat rcell l)) (hk : l[k]? = some r) :
    w.cell? ⟨q, k * 5, none⟩ = some (.int .u8 r.k) ∧ w.cell? ⟨q, k * 5 + 1, none⟩ = some (.int .i64 r.g) ∧ w.cell? ⟨q, k * 5 + 2, none⟩ = some (.int .i64 r.s) ∧
      w.cell? ⟨q, k * 5 + 3, none⟩ = some (.int .i64 r.b) ∧ w.cell? ⟨q, k * 5 + 4, none⟩ = some (.string r.v) := by
  have hkl := (List.getElem?_eq_some_iff.1 hk).1
  have hm : 0 < m := by
    have := h.1
    rw [flat_length (rc_len l)] at this
    omega
  obtain ⟨ad, e, _, hc⟩ := h.2 hm
  injection e with e
  subst e
  have hg : ∀ j u, j < 5 → (rcell r)[j]? = some u → w.cell? ⟨q, k * 5 + j, none⟩ = some u := fun j u hj hu => by
    have := hc (k * 5 + j) u (by rw [flat_get (rc_len l) hk j hj]; exact hu)
    rwa [addr_add, Nat.zero_add] at this
  exact ⟨hg 0 _ (by omega) rfl, hg 1 _ (by omega) rfl, hg 2 _ (by omega) rfl, hg 3 _ (by omega) rfl, hg 4 _ (by omega) rfl⟩
theorem info_tx : (Try.prog.info? 9).map (fun i => (i.zero, i.size, i.bytes)) = some (some (.string ⟨#[]⟩), 1, 16) := by kernel_rfl
/-- what Image answers -/
def imgOf (x : Sb) : List ByteArray := if SM.may x then img (SM.recs x) else []
set_option maxHeartbeats 8000000 in
theorem rimage_any (MC : MayC) (v : Value) (x : Sb) (W : World) (H : StIs W v x) (F : Fit x) :
    Calls Try.prog 33 #[v] W fun e w' => ∃ u, e = .returned (.tuple #[u, .int .i64 (if SM.may x then 0 else 8)]) ∧ w'.ownsRow W.heap.size 9 1 u (imgOf x).length (tc (imgOf x)) ∧ Below W.heap.size W w' := by
  obtain ⟨A, c, B, d, rfl, hL, hV⟩ := H
  obtain ⟨i0, hi, hz0, hz1, hz2⟩ := info_parts info_tx
  have hb0 : Below W.heap.size W (W.alloc (.cells #[.slice A x.logs.length c, .slice B x.votes.length d] 25)) := (Below.refl _ _).alloc (Nat.le_refl _) _
  have HB := Lib.hid hb0
  have Y := Lib.hid (Box.new W 25 #[.slice A x.logs.length c, .slice B x.votes.length d])
  have HI := Lib.hid (fun w (h : Below W.heap.size W w) => (show StIs w (.agg #[.slice A x.logs.length c, .slice B x.votes.length d]) x from ⟨A, c, B, d, rfl, hL.below h, hV.below h⟩))
  have CM := Lib.hid (fun w (h : Below W.heap.size W w) => MC (.agg #[.slice A x.logs.length c, .slice B x.votes.length d]) x w ⟨A, c, B, d, rfl, hL.below h, hV.below h⟩ F)
  obtain ⟨e0, he0⟩ : ∃ e0 : Int, e0 = if SM.may x then 0 else 8 := ⟨_, rfl⟩
  rw [← he0]
  have HE0 := Lib.hid he0
  clear hL hV hb0 F MC he0
  go_enter Try.func33, Try.ntmps33
  go_upto_region 1 with (fail)
  generalize W.alloc (.cells #[.slice A x.logs.length c, .slice B x.votes.length d] 25) = w1 at HB Y ⊢
  obtain ⟨g0, hg0⟩ : ∃ g0, W.heap.size = g0 := ⟨_, rfl⟩
  rw [hg0] at Y
  simp only [hg0]
  have HG := Lib.hid hg0
  clear hg0
  obtain ⟨x0, x1, _, _⟩ := Y.out.two
  go_wp2_with fail
  refine (CM.out w1 HB.out).mono ?_
  rintro e w2 ⟨rfl, hb⟩
  replace HB := Lib.hid (HB.out.trans (hb.mono HB.out.size))
  replace Y := Lib.hid (Y.out.below hb Y.out.lt)
  clear hb CM x0 x1
  by_cases hm : SM.may x
  · rw [decide_eq_true hm]
    obtain rfl : e0 = 0 := by rw [HE0.out, if_pos hm]
    have HE := Lib.hid (show imgOf x = img (SM.recs x) from if_pos hm)
    have HR := Lib.hid (SM.rec_all hm)
    have hnl := SM.image_len hm
    have hml := SM.many_le x.logs hm.2.1
    have h44 := hm.1.2
    have hvl := SM.votes_le hm
    have hn : (SM.recs x).length ≤ 3000 := by unfold SM.image at hnl; rw [List.length_map] at hnl; omega
    have CR := Lib.hid (fun w (h : Below W.heap.size W w) => rrecords_any (.agg #[.slice A x.logs.length c, .slice B x.votes.length d]) x w (HI.out w h) hm)
    clear hm hnl hml
    obtain ⟨x0, x1, _, _⟩ := Y.out.two
    go_wp2_with fail
    refine (CR.out w2 HB.out).mono ?_
    rintro e w3 ⟨v3, rfl, oR, hb⟩
    have hsz := HB.out.size
    replace HB := Lib.hid (HB.out.trans (hb.mono HB.out.size))
    clear hb CR x0 x1 Y HI
    obtain ⟨R, c3, rfl, hc3, hc4⟩ := own_form oR
    unfold maxLen at hc4
    obtain ⟨P, hP⟩ : ∃ P, P = SM.recs x := ⟨_, rfl⟩
    rw [← hP] at HE HR hn oR hc3 ⊢
    clear hP
    have OR := Lib.hid oR
    clear oR
    go_wp2_with fail
    go_loopw [4, 6] (fun u i wr => ∃ (k : Nat) (u0 : Value), k ≤ P.length ∧ i = .int .i64 k ∧ u0 = u ∧ wr.ownsRow w3.heap.size 9 1 u (img (P.take k)).length (tc (img (P.take k))) ∧ Hid (Below w3.heap.size w3 wr)) (fun _ i _ => P.length - (intOf i).toNat)
    case atStart => exact ⟨0, _, Nat.zero_le _, rfl, rfl, World.ownsRow_nil _ _ _ _, Lib.hid (Below.refl _ _)⟩
    case round =>
      obtain ⟨k, u, hk, rfl, rfl, hown, HW⟩ := hrel
      have hbz := HW.out.size
      have HOW := Lib.hid hown
      clear hown
      by_cases hlt : k < P.length
      · obtain ⟨r, hr⟩ : ∃ r, P[k]? = some r := ⟨_, List.getElem?_eq_getElem hlt⟩
        obtain ⟨q, hq, _, _⟩ := own_some OR.out (show 0 < P.length by omega)
        subst hq
        obtain ⟨a0, a1, a2, a3, a4⟩ := rc_cells ((rd_of_own3 OR.out).below HW.out) hr
        have CT := Lib.hid (fun w => rtext_any r w (HR.out r (List.mem_of_getElem? hr)))
        have HN := Lib.hid (show img (P.take (k + 1)) = img (P.take k) ++ [⟨(RM.wr r).toArray⟩] by unfold img; rw [take_snoc hr, List.map_append]; rfl)
        have HK := Lib.hid (show (img (P.take k)).length ≤ 3000 by unfold img; rw [List.length_map, List.length_take]; omega)
        obtain ⟨s, hs⟩ : ∃ s : ByteArray, s = ⟨(RM.wr r).toArray⟩ := ⟨_, rfl⟩
        rw [← hs] at CT HN
        clear hs hr
        have hk0 : (0 : Int) ≤ (k : Int) := by omega
        have hkn : (k : Int) < (P.length : Int) := by omega
        go_wp2_with fail
        clear a0 a1 a2 a3 a4
        refine (CT.out _).mono ?_
        rintro e w5 ⟨rfl, hb⟩
        replace HW := Lib.hid (HW.out.trans (hb.mono hbz))
        replace HOW := Lib.hid (own_below3 HOW.out hb)
        have hbz2 := HW.out.size
        clear hb CT
        go_wp2_with (at_builtin; refine wpList_append_g _ rfl _ _ 32 rfl w3.heap.size 9 i0 _ 1 16 Try.underlying32 hi hz0 hz1 hz2 rfl (by omega) u _ _ rfl (own_below3 HOW.out ((Below.refl _ _).alloc (Nat.le_refl _) _)) (some ⟨w5.heap.size, 0, none⟩) 1 1 [.string s] rfl (rdG_box (Box.new _ 9 #[.string s]) rfl rfl) (by intro z hz; simp at hz; subst hz; rfl) (by unfold maxLen; have := HK.out; omega) (by have := HK.out; omega) (by simp; omega) ?_; intro v2 w6 hown2 hg2 hob2)
        have hbel := below_row (HW.out.alloc hbz2 (.cells #[.string s] 9)) (own_below3 HOW.out ((Below.refl _ _).alloc (Nat.le_refl _) _)) (by simp; omega) hg2
        go_roundw
        case rel => exact ⟨k + 1, _, by omega, by go_num, rfl, by rw [HN.out, List.length_append, tc_append]; exact hown2, Lib.hid hbel⟩
        case measure => simp [intOf]; omega
      · have hkl : P.length = k := by omega
        have hend := HOW.out
        rw [List.take_of_length_le (by omega), ← HE.out] at hend
        clear HOW
        subst hkl
        go_wp2_with fail
        go_ret2
        exact ⟨_, rfl, own_base hend (by have := HB.out.size; have := HG.out; omega), HB.out.trans (HW.out.mono HB.out.size)⟩
  · rw [decide_eq_false hm]
    obtain rfl : e0 = 8 := by rw [HE0.out, if_neg hm]
    have HE := Lib.hid (show imgOf x = [] from if_neg hm)
    clear hm
    go_wp2_with fail
    go_ret2
    exact ⟨_, rfl, by rw [HE.out]; exact World.ownsRow_nil _ _ _ _, HB.out⟩
end Go.Proofs.Ytohiemdodffhoaa.SP

namespace Go.Proofs.Ytohiemdodffhoaa.SP
open Go.RowKit
open SM (Sn Sb Vo)
set_option linter.unusedVariables false
set_option linter.unusedSimpArgs false

def ImgIs (x : Sb) (W : World) (e : Ending) (w' : World) : Prop := ∃ A c, e = .returned (.tuple #[.slice A (imgOf x).length c, .int .i64 (if SM.may x then 0 else 8)]) ∧ Rd w' A (imgOf x).length (tc (imgOf x)) ∧ (imgOf x).length ≤ c ∧ c ≤ maxLen ∧ Below W.heap.size W w'
def ImgP : Prop := ∀ (v : Value) (x : Sb) (W : World), StIs W v x → Fit x → Calls Try.prog 12 #[v] W (ImgIs x W)
def RepP : Prop := ∀ (n : Int) (A : Option Addr) (m c : Nat) (l : List ByteArray) (W : World), Rd W A m (tc l) → (∀ v ∈ l, v.size ≤ maxLen) → m ≤ maxLen →
    Calls Try.prog 16 #[.int .i64 n, .slice A m c] W (RpPost n l W)
def SamP : Prop := ∀ (u v : Value) (x y : Sb) (w : World), StIs w u x → StIs w v y → Fit x → Fit y →
    Calls Try.prog 28 #[u, v] w fun e w' => e = .returned (.bool (decide (x = y))) ∧ Below w.heap.size w w'
def ChkP : Prop := ∀ (v : Value) (x : Sb) (W : World), StIs W v x → Fit x →
    Calls Try.prog 26 #[v] W fun e w' => ∃ z : Int, e = .returned (.int .i64 z) ∧ (z = 0 ↔ SM.may x) ∧ Below W.heap.size W w'
theorem tb_img (l : List RM.Rc) : tb (img l) = l.map RM.wr := by
  unfold tb img
  rw [List.map_map]
  refine List.map_congr_left fun r _ => ?_
  simp [RM.bsz]
theorem img_may {x : Sb} (h : SM.may x) : imgOf x = img (SM.recs x) := if_pos h
theorem tb_image {x : Sb} (h : SM.may x) : tb (imgOf x) = SM.image x := by rw [img_may h, tb_img]; rfl
theorem img_len {x : Sb} (h : SM.may x) : (imgOf x).length = (SM.image x).length := by rw [← tb_image h, tb_len]
theorem img_size {x : Sb} (h : SM.may x) : ∀ v ∈ imgOf x, v.size ≤ maxLen := by
  intro v hv
  rw [img_may h] at hv
  obtain ⟨r, hr, rfl⟩ := List.mem_map.1 hv
  have h1 := RM.wr_len (SM.rec_all h r hr)
  unfold maxLen
  show Array.size _ ≤ _
  simp only [List.size_toArray]
  omega
end Go.Proofs.Ytohiemdodffhoaa.SP

namespace Go.Proofs.Ytohiemdodffhoaa
open Go.RowKit Go.Joins Go.ChangeShapes Go.WideShapes Go.Deep
set_option linter.unusedVariables false

section
variable {H : Type} {enc : TypeId × Value → H} {w : World} {spare : Nat → Bool} {held : Bool} {base : Nat}
/-- a row of structs of s cells, each read by 'hr' -/
theorem rows_cells {α : Type} [Inhabited α] {f : α → List Value} {s : Nat} {T E : TypeId} {Fa : α → Prop} (hT : Try.prog.underlying T = some (.slice E)) (hC : Try.prog.cellsOf E = s) (hs0 : 0 < s)
    (hr : ∀ {fuel : Nat} {cs : List Value} {x : DataW H × List MemPlace}, DataW.trod enc Try.prog w base spare held fuel E cs = some x → ∃ a, cs = f a ∧ Fa a)
    {fuel : Nat} {v : Value} {x : DataW H × List MemPlace} (h : DataW.trod enc Try.prog w base spare held fuel T [v] = some x) :
    ∃ A n c l, v = .slice A n c ∧ n ≤ c ∧ c ≤ maxLen ∧ RdG w s A n (flat f l) ∧ l.length = n ∧ ∀ a ∈ l, Fa a := by
  rcases open_slice hT h with ⟨hcs, _⟩ | ⟨a, len, cap, m, n, D, Pl, hcs, hbl, hl, hm, hmm, _, hi⟩
  · simp at hcs
    exact ⟨none, 0, 0, [], hcs, Nat.le_refl _, Nat.zero_le _, ⟨by simp [flat], fun h => absurd h (by omega)⟩, rfl, fun p hp => by cases hp⟩
  · simp at hcs
    have hlm : len ≤ m := by rw [hmm]; split <;> omega
    have hex : ∀ i, ∃ p : α, i < len → (f p).length = s ∧ (∀ j, j < s → w.cell? (a.add (i * s + j)) = (f p)[j]?) ∧ Fa p := by
      intro i
      by_cases hil : i < len
      · obtain ⟨cs, hc, ht⟩ := hi i (by omega)
        obtain ⟨p, rfl, F⟩ := hr ht
        rw [hC] at hc
        obtain ⟨_, hlen, hat⟩ := World.cells?_some hc
        refine ⟨p, fun _ => ⟨hlen, fun j hj => ?_, F⟩⟩
        have := hat j (by omega)
        rw [add_of_add] at this
        exact this
      · exact ⟨default, fun h => absurd h hil⟩
    obtain ⟨Q, hQ⟩ := Classical.axiomOfChoice hex
    have hps : ∀ (k : Nat) (p : α), ((List.range len).map Q)[k]? = some p → k < len ∧ p = Q k := by
      intro k p hk
      have hkl := (List.getElem?_eq_some_iff.1 hk).1
      simp at hkl
      rw [List.getElem?_map, List.getElem?_range hkl] at hk
      simp at hk
      exact ⟨hkl, hk.symm⟩
    have hfl : ∀ p ∈ (List.range len).map Q, (f p).length = s := fun p hp => by
      obtain ⟨k, hk, rfl⟩ := List.getElem_of_mem hp
      obtain ⟨h1, e⟩ := hps k _ (List.getElem?_eq_getElem hk)
      rw [e]
      exact (hQ k h1).1
    refine ⟨some a, len, cap, (List.range len).map Q, hcs, hl, hm, ⟨by rw [flat_length hfl]; simp, fun h0 => ⟨a, rfl, ?_, fun j u hu => ?_⟩⟩, by simp, fun p hp => ?_⟩
    · have h1 := (hQ 0 h0).2.1 0 hs0
      have h2 : 0 < (f (Q 0)).length := by rw [(hQ 0 h0).1]; exact hs0
      rw [List.getElem?_eq_getElem h2] at h1
      have hb := cell_block h1
      rwa [block_of_add] at hb
    · have hj := (List.getElem?_eq_some_iff.1 hu).1
      rw [flat_length hfl] at hj
      simp at hj
      have hk : j / s < len := Nat.div_lt_of_lt_mul (by rw [Nat.mul_comm]; exact hj)
      have hgk : ((List.range len).map Q)[j / s]? = some (Q (j / s)) := by simp [hk]
      have hmod := Nat.mod_lt j hs0
      have e1 := flat_get hfl hgk (j % s) hmod
      have e2 : j / s * s + j % s = j := by rw [Nat.mul_comm]; exact Nat.div_add_mod j s
      rw [e2] at e1
      have e3 := (hQ (j / s) hk).2.1 (j % s) hmod
      rw [e2] at e3
      rw [e3, ← e1, hu]
    · obtain ⟨k, hk, rfl⟩ := List.getElem_of_mem hp
      obtain ⟨h1, e⟩ := hps k _ (List.getElem?_eq_getElem hk)
      rw [e]
      exact (hQ k h1).2.2
end
end Go.Proofs.Ytohiemdodffhoaa

namespace Go.Proofs.Ytohiemdodffhoaa.SP
open Go.RowKit Go.Joins Go.ChangeShapes Go.WideShapes Go.Deep
open SM (Sn Sb Vo)
set_option linter.unusedVariables false

def StArg (w : World) (v : Value) (x : Sb) : Prop := StIs w v x ∧ Fit x
instance : Inhabited Sn := ⟨⟨0, 0, ⟨0, 0, .empty⟩⟩⟩
theorem cell_spot {w : World} {a : Addr} {v : Value} (h : w.cell? a = some v) : a.spot = none := by
  unfold World.cell? at h
  split at h
  · split at h
    · cases h
    · rename_i hn
      cases hs : a.spot
      · rfl
      · simp [hs] at hn
  · cases h
theorem flat_of {w : World} {B : Option Addr} {m : Nat} {l : List Sn} (h : RdG w 5 B m (flat sncell l)) (hl : l.length = m) : Flat B m := by
  intro hm
  obtain ⟨ad, e, _, hc⟩ := h.2 hm
  have h5 : (flat sncell l).length = l.length * 5 := flat_sn l
  have h0 := hc 0 _ (List.getElem?_eq_getElem (by omega))
  rw [show ad.add 0 = ad from by simp [Addr.add]] at h0
  have := cell_spot h0
  obtain ⟨bl, o, sp⟩ := ad
  simp only at this
  subst this
  exact ⟨bl, o, e⟩
section
variable {H : Type} {enc : TypeId × Value → H} {w : World} {spare : Nat → Bool} {held : Bool} {base : Nat}
theorem vo_cells {fuel : Nat} {cs : List Value} {x : DataW H × List MemPlace} (h : DataW.trod enc Try.prog w base spare held fuel 48 cs = some x) :
    ∃ o : Vo, cs = [.int .i64 o.p, .int .i64 o.b, .string o.v] ∧ (-9223372036854775808 ≤ o.p ∧ o.p ≤ 9223372036854775807) ∧ (-9223372036854775808 ≤ o.b ∧ o.b ≤ 9223372036854775807) ∧ o.v.size ≤ maxLen := by
  obtain ⟨hlen, n, hf⟩ := cells_read Try.underlying48 (by kernel_rfl) h
  have hl : cs.length = 3 := hlen.trans (by kernel_rfl)
  match cs, hl with
  | [c0, c1, c2], _ =>
    obtain ⟨y0, t0⟩ := hf 0 _ c0 rfl rfl
    obtain ⟨y1, t1⟩ := hf 1 _ c1 rfl rfl
    obtain ⟨y2, t2⟩ := hf 2 _ c2 rfl rfl
    obtain ⟨a, e0, _, w0⟩ := DataW.trod_int Try.underlying3 t0
    obtain ⟨b, e1, _, w1⟩ := DataW.trod_int Try.underlying3 t1
    obtain ⟨s, e2, _, w2⟩ := DataW.trod_string Try.underlying9 t2
    simp at e0 e1 e2
    subst e0 e1 e2
    exact ⟨⟨a, b, s⟩, rfl, range_i64 w0, range_i64 w1, w2⟩
theorem seen_cells {fuel : Nat} {cs : List Value} {x : DataW H × List MemPlace} (h : DataW.trod enc Try.prog w base spare held fuel 75 cs = some x) : ∃ y : Sn, cs = sncell y ∧ SnFit y := by
  obtain ⟨y0, y1, y2, n, _, hlen, t0, t1, t2⟩ := trod_struct3 Try.underlying75 h
  have hl : cs.length = 5 := hlen.trans (by kernel_rfl)
  rw [show Try.prog.cellsOf 3 = 1 from by kernel_rfl] at t0 t1
  rw [show Try.prog.cellsOf 48 = 3 from by kernel_rfl] at t2
  match cs, hl with
  | [c0, c1, c2, c3, c4], _ =>
    obtain ⟨a, e0, _, w0⟩ := DataW.trod_int Try.underlying3 t0
    obtain ⟨b, e1, _, w1⟩ := DataW.trod_int Try.underlying3 t1
    obtain ⟨o, e2, w2, w3, w4⟩ := vo_cells t2
    simp at e0 e1 e2
    obtain ⟨rfl, rfl, rfl⟩ := e2
    subst e0 e1
    exact ⟨⟨a, b, o⟩, rfl, range_i64 w0, range_i64 w1, w2, w3, w4⟩
/-- texts in a row -/
theorem text_cells {fuel : Nat} {cs : List Value} {x : DataW H × List MemPlace} (h : DataW.trod enc Try.prog w base spare held fuel 32 cs = some x) :
    ∃ B c, ∃ l : List ByteArray, cs = [.slice B l.length c] ∧ Rd w B l.length (tc l) ∧ l.length ≤ c ∧ c ≤ maxLen ∧ ∀ s ∈ l, s.size ≤ maxLen := by
  rcases open_strings Try.underlying32 Try.underlying9 (by kernel_rfl) h with ⟨hcs, _⟩ | ⟨a, len, cap, ss, hcs, _, hl, hm, hz, _, hcell, hws⟩
  · exact ⟨none, 0, [], hcs, Rd.nil, Nat.zero_le _, Nat.zero_le _, fun s hs => by cases hs⟩
  · have hlz : len ≤ ss.length := by rw [hz]; split <;> omega
    have hlt : (ss.take len).length = len := by rw [List.length_take]; omega
    refine ⟨some a, cap, ss.take len, by rw [hlt]; exact hcs, ⟨by rw [tc_length], fun hn => ⟨a, rfl, ?_, fun j u hu => ?_⟩⟩, by rw [hlt]; exact hl, hm, fun s hs => hws s (List.mem_of_mem_take hs)⟩
    · rw [hlt] at hn
      have := cell_block (hcell 0 (by omega))
      rwa [block_of_add] at this
    · unfold tc at hu
      rw [List.getElem?_map, List.getElem?_take] at hu
      split at hu
      · rename_i hj
        have hjz : j < ss.length := by omega
        rw [hcell j hjz]
        rw [List.getElem?_eq_getElem hjz] at hu
        simp only [Option.map_some, Option.some.injEq] at hu
        rw [← hu]
        simp [hjz]
      · simp at hu
/-- rows of texts -/
theorem logs_cells {fuel : Nat} {cs : List Value} {x : DataW H × List MemPlace} (h : DataW.trod enc Try.prog w base spare held fuel 22 cs = some x) :
    ∃ A c, ∃ ls : List (List ByteArray), cs = [.slice A ls.length c] ∧ LogsIs w A ls.length c ls ∧ ∀ l ∈ ls, ∀ v ∈ l, v.size ≤ maxLen := by
  rcases open_slice1 Try.underlying22 (by kernel_rfl) h with ⟨hcs, _⟩ | ⟨a, len, cap, m, k, V, D, Pl, hcs, _, hl, hm, hmm, _, hi⟩
  · exact ⟨none, 0, [], hcs, ⟨[], Rd.nil, ⟨rfl, fun i l hl => by simp at hl⟩, rfl, Nat.le_refl _, Nat.zero_le _⟩, fun l hl => by cases hl⟩
  · have hlm : len ≤ m := by rw [hmm]; split <;> omega
    obtain ⟨f, hf⟩ := choose_lt (α := List ByteArray) (n := len) (p := fun i q => ∃ B c, V i = .slice B q.length c ∧ Rd w B q.length (tc q) ∧ q.length ≤ c ∧ c ≤ maxLen ∧ ∀ s ∈ q, s.size ≤ maxLen) (fun i hi' => by
      obtain ⟨_, g2⟩ := hi i (by omega)
      obtain ⟨B, c, l, e, h1, h2, h3, h4⟩ := text_cells g2
      exact ⟨l, B, c, by simpa using e, h1, h2, h3, h4⟩)
    refine ⟨some a, cap, (List.range len).map f, by simpa using hcs, ⟨(List.range len).map V, ⟨by simp, fun hn => ⟨a, rfl, ?_, fun j u hu => ?_⟩⟩, ⟨by simp, fun i l hl' => ?_⟩, rfl, by simpa using hl, hm⟩, fun l hl' => ?_⟩
    · simp at hn
      have := cell_block (hi 0 (by omega)).1
      rwa [block_of_add] at this
    · have hjl : j < len := by have := (List.getElem?_eq_some_iff.1 hu).1; simpa using this
      simp [hjl] at hu
      subst hu
      exact (hi j (by omega)).1
    · have hjl : i < len := by have := (List.getElem?_eq_some_iff.1 hl').1; simpa using this
      simp [hjl] at hl'
      subst hl'
      obtain ⟨B, c, e, h1, h2, h3, _⟩ := hf i hjl
      exact ⟨B, c, by simp [hjl, e], h1, h2, h3⟩
    · obtain ⟨i, hil, rfl⟩ := List.mem_map.1 hl'
      obtain ⟨_, _, _, _, _, _, h4⟩ := hf i (List.mem_range.1 hil)
      exact h4
set_option maxRecDepth 100000 in
theorem open_st {r : Reach} {b0 : Nat} {v : Value} {d : DataW H} {p : List MemPlace} (hv : Value.okWide Try.prog w r b0 25 v) (h : DataW.Trod enc Try.prog w base spare held 25 v d p) : ∃ q, StArg w v q := by
  obtain ⟨cs, rfl, hsz⟩ := okWide_struct Try.underlying25 hv
  obtain ⟨l⟩ := cs
  obtain ⟨fuel, hf⟩ := h
  obtain ⟨hlen, n, hg⟩ := cells_read Try.underlying25 (by kernel_rfl) hf
  have hl : l.length = 2 := by
    have := hlen.trans (show Try.prog.cellsOf 25 = 2 by kernel_rfl)
    simpa [Value.cells] using this
  match l, hl with
  | [c0, c1], _ =>
    obtain ⟨y0, t0⟩ := hg 0 _ c0 rfl (by simp [Value.cells])
    obtain ⟨y1, t1⟩ := hg 1 _ c1 rfl (by simp [Value.cells])
    obtain ⟨A, c, ls, e0, h0, F0⟩ := logs_cells t0
    obtain ⟨B, m, k, vs, rfl, g1, g1', r1, l1, F1⟩ := rows_cells (s := 5) Try.underlying23 (by kernel_rfl) (by omega) (fun h => seen_cells h) t1
    simp at e0
    subst e0 l1
    exact ⟨⟨ls, vs⟩, ⟨A, c, B, k, rfl, h0, r1, rfl, g1, g1', flat_of r1 rfl⟩, F0, F1⟩
end
end Go.Proofs.Ytohiemdodffhoaa.SP

namespace Go.Proofs.Ytohiemdodffhoaa
open Go.RowKit Go.Lib
set_option linter.unusedVariables false

theorem run_copy_s {P : Program} (w : World) (dT sT ty e : TypeId) (s : Nat) (b o dLen dCap : Nat) (a : Addr) (sLen sCap : Nat) (cs : List Value)
    (hu : P.underlying dT = some (.slice e)) (hs : (P.info? e).map (·.size) = some s) (hn : cs.length = Nat.min sLen dLen * s)
    (hsrc : ∀ j v, cs[j]? = some v → w.cell? (a.add j) = some v) (hc : ∀ j, j < cs.length → (w.cell? ⟨b, o + j, none⟩).isSome = true) (hf : ∀ j, j < cs.length → w.frozen? ⟨b, o + j, none⟩ = false) (h1 : ∀ v ∈ cs, v.oneCell' = true) :
    (Builtin.copy_ #[dT, sT] ty #[.slice (some ⟨b, o, none⟩) dLen dCap, .slice (some a) sLen sCap]).run P w = .ok (goInt (Nat.min sLen dLen)) (w.setCells b o cs) := by
  have hl := run_loadCells_list (P := P) w a cs hsrc
  have hst := run_storeCells_cells (P := P) b o cs 0 w (by simpa using hc) (by simpa using hf) h1
  cases hq : P.info? e with
  | none => simp [hq] at hs
  | some i =>
    have hi : i.size = s := by simpa [hq] using hs
    simp only [hn] at hl
    simp [Builtin.copy_, run_underlying hu, Builtin.lenOf, Builtin.firstCells, sizeOf, typeInfo, hq, hi, hl, hst]

/-- the block whose cells are set -/
theorem box_setCells {g : Nat} {t : TypeId} : ∀ (vs : List Value) (o : Nat) (w : World) (cs : Array Value), Box w g t cs → o + vs.length ≤ cs.size →
    ∃ cs', Box (w.setCells g o vs) g t cs' ∧ cs'.toList = cs.toList.take o ++ vs ++ cs.toList.drop (o + vs.length)
  | [], o, w, cs, h, _ => ⟨cs, h, by simp⟩
  | v :: r, o, w, cs, h, hl => by
    simp only [List.length_cons] at hl
    obtain ⟨cs', h1, h2⟩ := box_setCells r (o + 1) (w.setCell ⟨g, o, none⟩ v) (cs.setIfInBounds o v) (h.stored o v) (by simp; omega)
    refine ⟨cs', h1, ?_⟩
    rw [h2]
    have e : (cs.setIfInBounds o v).toList = cs.toList.set o v := by simp
    have hol : o < cs.toList.length := by simp; omega
    rw [e, List.drop_set_of_lt (by omega), show o + 1 + r.length = o + (v :: r).length by simp; omega]
    congr 1
    rw [List.take_succ_eq_append_getElem (by simpa using hol), List.take_set_of_le (Nat.le_refl _)]
    simp
theorem grown_setCells (g : Nat) : ∀ (vs : List Value) (o : Nat) (w : World), w.grownBy (w.setCells g o vs) (some g)
  | [], o, w => World.grownBy.refl w _
  | v :: r, o, w => by
    have h := grown_setCells g r (o + 1) (w.setCell ⟨g, o, none⟩ v)
    have h0 : w.grownBy (w.setCell ⟨g, o, none⟩ v) (some g) := ⟨rfl, rfl, rfl, by simp [World.setCell], fun k hk hne => Below.heap_setCell _ _ _ _ (by intro e; apply hne; rw [e])⟩
    exact grown_more h0 h (.inl rfl)
theorem set_tail_first {L xs ys vs : List Value} {a s r : Nat} (h1 : L.take a = xs) (hv : vs.length = s) (hy : ys.length = r) (hl : a + s + r ≤ L.length) (hx : xs.length = a) {L1 L2 : List Value}
    (e1 : L1 = L.take (a + s) ++ ys ++ L.drop (a + s + ys.length)) (e2 : L2 = L1.take a ++ vs ++ L1.drop (a + vs.length)) : L2.take (a + s + r) = xs ++ vs ++ ys ∧ L2.length = L.length := by
  have ha : (L.take (a + s)).length = a + s := by rw [List.length_take]; omega
  have t1 : L1.take a = xs := by
    rw [e1, List.append_assoc, List.take_append_of_le_length (by omega), List.take_take, Nat.min_eq_left (by omega), h1]
  have t2 : L1.drop (a + vs.length) = ys ++ L.drop (a + s + ys.length) := by
    rw [e1, hv, List.append_assoc, List.drop_append_of_le_length (by omega), List.drop_eq_nil_of_le (by omega), List.nil_append]
  constructor
  · rw [e2, t1, t2, ← List.append_assoc, List.take_append_of_le_length (by simp; omega), List.take_of_length_le (by simp; omega)]
  · rw [e2, t1, t2]
    simp
    omega
theorem set_new_first {L xs ys vs : List Value} {a s r : Nat} (h1 : L.take a = xs) (hv : vs.length = s) (hy : ys.length = r) (hl : a + s + r ≤ L.length) (hx : xs.length = a) {L1 L2 : List Value}
    (e1 : L1 = L.take a ++ vs ++ L.drop (a + vs.length)) (e2 : L2 = L1.take (a + s) ++ ys ++ L1.drop (a + s + ys.length)) : L2.take (a + s + r) = xs ++ vs ++ ys ∧ L2.length = L.length := by
  have t1 : L1.take (a + s) = xs ++ vs := by
    rw [e1, h1, List.take_append_of_le_length (by simp; omega), List.take_of_length_le (by simp; omega)]
  have hl1 : L1.length = L.length := by rw [e1]; simp; omega
  constructor
  · rw [e2, t1, List.take_append_of_le_length (by simp; omega), List.take_of_length_le (by simp; omega)]
  · rw [e2, t1]
    simp
    omega

theorem wpList_copy_go {P : Program} (w : World) {ops : Array Oper} {rest : List Oper} {o : Oper} {a : Act} {Q : Exit → Act → World → Prop} (hgd : o.guard = none) (d s : Operand) (t t' : TypeId)
    (ho : o.op = .call { callee := .builtin .copy, args := #[d, s], argTypes := #[t, t'] }) (v u : Value) (hd : a.eval d = v) (hs : a.eval s = u) {v' : Value} {w' : World}
    (hr : (Builtin.copy_ #[t, t'] o.type #[v, u]).run P w = .ok v' w') (h : wpList P ops Q rest (a.put o.dst v') w') : wpList P ops Q (o :: rest) a w := by
  refine wpList_plain hgd fun K hK => ?_
  unfold Oper.wp execOp
  simp only [ho, resolve, invoke, builtin, Sem.run_bind, Sem.run_pure, Result.andThen_ok, List.map_toArray, List.map_cons, List.map_nil, hd, hs, hr]
  exact hK _ _ h
theorem step_copy_go {P : Program} {ops : Array Oper} {o : Oper} {a : Act} {w : World} {K : Act → World → Prop} {Q : Exit → Act → World → Prop} {E : Prop}
    (hg : o.guard = none) (d x : Operand) (dT sT : TypeId) (hop : o.op = Op.call { callee := Callee.builtin Builtin.copy, args := #[d, x], argTypes := #[dT, sT] })
    (v u : Value) (hd : a.eval d = v) (hx : a.eval x = u) {v' : Value} {w' : World} (hr : (Builtin.copy_ #[dT, sT] o.type #[v, u]).run P w = .ok v' w') (hK : K (a.put o.dst v') w') :
    if Region.wanted o (yielded ops a.tmps) = true then Oper.wp P o a w K Q else E := by
  have hw : Region.wanted o (yielded ops a.tmps) = true := by simp [Region.wanted, hg]
  rw [if_pos hw]
  unfold Oper.wp
  simp [execOp, hop, resolve, invoke, builtin, hd, hx, hr, Result.andThen]
  exact hK

/-- an element put into a row of the call's own, at i -/
def InsIs (base : Nat) (e : TypeId) (s n : Nat) (xs : List Value) (ob : Option Nat) (w : World) (x : Ending) (w' : World) : Prop :=
  ∃ A c, x = .returned (.slice A (n + 1) c) ∧ w'.ownsRow base e s (.slice A (n + 1) c) (n + 1) xs ∧ w.grownBy w' ob ∧ (Value.ownBlock (.slice A (n + 1) c) = ob ∨ Value.ownBlock (.slice A (n + 1) c) = some w.heap.size)
theorem grown_drew {a b : World} {r : Option Nat} (h : a.grownBy b r) : a.grownBy b.drew r := ⟨h.os, h.tape, h.output, h.size, h.block⟩
theorem Box.isSome {w : World} {g : Nat} {t : TypeId} {cs : Array Value} (h : Box w g t cs) {j : Nat} (hj : j < cs.size) : (w.cell? ⟨g, j, none⟩).isSome = true := by
  rw [h.cell j, Array.getElem?_eq_getElem hj]; rfl
end Go.Proofs.Ytohiemdodffhoaa

namespace Go.Proofs.Ytohiemdodffhoaa.SP
open Go.RowKit Go.Lib Go.Shelf
set_option linter.unusedVariables false
set_option linter.unusedSimpArgs false

set_option maxHeartbeats 4000000 in
set_option maxRecDepth 100000 in
theorem insV_shift (base b n c i vb : Nat) (xs vs : List Value) (cur : Array Value) (w : World) (hi : i < n) (hn : n ≤ 2000) (hroom : n + 1 ≤ c) (hc : c ≤ maxLen)
    (hbase : base ≤ b) (hx : Box w b 75 cur) (hsz : cur.size = c * 5) (htk : cur.toList.take (n * 5) = xs) (hl : xs.length = n * 5)
    (hv : Box w vb 75 vs.toArray) (hvl : vs.length = 5) (hvb : vb ≠ b) (h1 : ∀ u ∈ xs, u.oneCell' = true) (h1v : ∀ u ∈ vs, u.oneCell' = true) :
    Calls Try.prog 105 #[.slice (some ⟨b, 0, none⟩) n c, .int .i64 i, .slice (some ⟨vb, 0, none⟩) 1 1] w (InsIs base 75 5 n (xs.take (i * 5) ++ vs ++ xs.drop (i * 5)) (some b) w) := by
  obtain ⟨i0, hi0, hz0, hz1, hz2⟩ := info_parts info_seen
  unfold maxLen at hc
  have hinfo : (Try.prog.info? 75).map (·.size) = some 5 := by rw [hi0]; simp [hz1]
  have hxc : ∀ j v, xs[j]? = some v → w.cell? ⟨b, j, none⟩ = some v := by
    intro j v hj
    have hjl := (List.getElem?_eq_some_iff.1 hj).1
    rw [hx.cell j, ← Array.getElem?_toList, ← hj, ← htk, List.getElem?_take, if_pos (by omega)]
  have hvc : ∀ j v, vs[j]? = some v → w.cell? ⟨vb, j, none⟩ = some v := by
    intro j v hj
    rw [hv.cell j]
    simpa using hj
  have hdl : (xs.drop (i * 5)).length = ((n - i) * 5) := by rw [List.length_drop, hl]; omega
  have hov : ∀ lb cb, (callFunc 106 #[.slice (some ⟨vb, 0, none⟩) 1 1, .slice (some ⟨b, (i + 1) * 5, none⟩) lb cb]).run Try.prog w = .ok (.value (.bool false)) w := fun lb cb => by
    rw [run_callFunc_extern Try.func106 (by kernel_rfl) (by kernel_rfl) (by kernel_rfl) (e := Extern.SlicesOverlaps.overlaps #[23, 23] #[4]) (by kernel_rfl),
      Lib.run_overlaps_apart w 23 4 75 Try.underlying23 5 Try.sizeOf75 ⟨vb, 0, none⟩ ⟨b, (i + 1) * 5, none⟩ 1 1 lb cb hvb 75 75 vs.toArray.size cur.size (by simp [World.shape?, hv, Box] at *; simp [hv]) (by simp [World.shape?, Box] at *; simp [hx]) (by omega) (hv.frozen 0) (hv.frozen _)]
    rfl
  have hcp1 : ∀ ty dc sc, (Builtin.copy_ #[23, 23] ty #[.slice (some ⟨b, (i + 1) * 5, none⟩) (n - i) dc, .slice (some ⟨b, i * 5, none⟩) (n + 1 - i) sc]).run Try.prog w.drew = .ok (goInt (n - i)) (w.drew.setCells b ((i + 1) * 5) (xs.drop (i * 5))) := fun ty dc sc => by
    have := run_copy_s (P := Try.prog) w.drew 23 23 ty 75 5 b ((i + 1) * 5) (n - i) dc ⟨b, i * 5, none⟩ (n + 1 - i) sc (xs.drop (i * 5)) Try.underlying23 hinfo (by rw [hdl]; simp only [Nat.min_def]; split <;> omega)
      (fun j v hj => by rw [Addr.add_lit]; exact hxc _ v (by rw [List.getElem?_drop] at hj; simpa using hj))
      (fun j hj => Box.isSome (w := w.drew) hx (by rw [hdl] at hj; omega)) (fun j hj => Box.frozen (w := w.drew) hx _) (fun v hv => h1 v (List.mem_of_mem_drop hv))
    rw [this]
    congr 2
    simp only [Nat.min_def]; split <;> omega
  obtain ⟨cu1, bx1, e1⟩ := box_setCells (xs.drop (i * 5)) ((i + 1) * 5) w.drew cur hx (by rw [hdl, hsz]; omega)
  have g1 := grown_setCells b (xs.drop (i * 5)) ((i + 1) * 5) w.drew
  obtain ⟨W1, hW1⟩ : ∃ W1, W1 = w.drew.setCells b ((i + 1) * 5) (xs.drop (i * 5)) := ⟨_, rfl⟩
  rw [← hW1] at hcp1 bx1 g1
  clear hW1
  have hv1 : Box W1 vb 75 vs.toArray := Box.grown (w := w.drew) hv g1 (by simpa using hvb)
  have hsz1 : cu1.size = cur.size := by rw [← Array.length_toList, e1]; simp [hdl]; omega
  have hcp2 : ∀ ty dc, (Builtin.copy_ #[23, 23] ty #[.slice (some ⟨b, i * 5, none⟩) (n + 1 - i) dc, .slice (some ⟨vb, 0, none⟩) 1 1]).run Try.prog W1 = .ok (goInt 1) (W1.setCells b (i * 5) vs) := fun ty dc => by
    have := run_copy_s (P := Try.prog) W1 23 23 ty 75 5 b (i * 5) (n + 1 - i) dc ⟨vb, 0, none⟩ 1 1 vs Try.underlying23 hinfo (by rw [hvl]; simp only [Nat.min_def]; split <;> omega)
      (fun j v hj => by rw [Addr.add_lit, hv1.cell]; simpa using hj)
      (fun j hj => bx1.isSome (by omega)) (fun j hj => bx1.frozen _) h1v
    rw [this]
    congr 2
    simp only [Nat.min_def]; split <;> omega
  obtain ⟨cu2, bx2, e2⟩ := box_setCells vs (i * 5) W1 cu1 bx1 (by rw [hvl, hsz1, hsz]; omega)
  have g2 := grown_setCells b vs (i * 5) W1
  obtain ⟨W2, hW2⟩ : ∃ W2, W2 = W1.setCells b (i * 5) vs := ⟨_, rfl⟩
  rw [← hW2] at hcp2 bx2 g2
  clear hW2
  have hfin := set_tail_first (L := cur.toList) (xs := xs.take (i * 5)) (ys := xs.drop (i * 5)) (vs := vs) (a := i * 5) (s := 5) (r := ((n - i) * 5)) (L1 := cu1.toList) (L2 := cu2.toList)
    (by rw [← htk, List.take_take, Nat.min_eq_left (by omega)]) hvl hdl (by simp [hsz]; omega) (by rw [List.length_take, hl]; omega) (by have := e1; rwa [show (i + 1) * 5 = i * 5 + 5 by omega] at this) e2
  have hret : InsIs base 75 5 n (xs.take (i * 5) ++ vs ++ xs.drop (i * 5)) (some b) w (.returned (.slice (some ⟨b, 0, none⟩) (n + 1) c)) W2 :=
    ⟨_, c, rfl, ⟨by simp [hl, hvl]; omega, .inr ⟨b, c, cu2, rfl, hbase, bx2, hroom, hc, by rw [← Array.length_toList, hfin.2]; simpa using hsz, by rw [← hfin.1]; congr 1; omega⟩⟩, grown_more (a := w) ⟨g1.os, g1.tape, g1.output, g1.size, g1.block⟩ g2 (.inl rfl), .inl rfl⟩
  have HRET := Lib.hid hret
  clear hret hfin bx2 g2 e2 e1 bx1 g1 hv1 hsz1 hx hsz htk hv hvc hxc
  have hz3 : ¬ ((i : Int) = (n : Int)) := by omega
  have hw1 : IntKind.i64.wrap ((i : Int) + 1) = (i : Int) + 1 := by rw [IntKind.wrap_i64]; omega
  have htn : ((i : Int) + 1).toNat = i + 1 := by omega
  have hb2 : ¬ (c = i + 1) := by omega
  have hb4 : ¬ (c = i) := by omega
  have hin : i ≤ n := by omega
  have hb1 : (0 : Int) ≤ (i : Int) + 1 := by omega
  have mixed : Try.prog.follows Departure.mixedOrders = true := by kernel_rfl
  have hb3 : (i : Int) ≤ (n : Int) + 1 := by omega
  have hb5 : (i : Int) < (n : Int) := by omega
  go_enter Try.func105, Try.ntmps105
  go_wp2_with (simp only [hov])
  go_region_law_o (refine step_copy_go rfl _ _ 23 23 rfl _ _ (by simp [Act.eval, Act.put]) (by simp [Act.eval, Act.put]) (hcp1 _ _ _) ?_)
  go_wp2_with (at_builtin; refine wpList_copy_go _ rfl _ _ 23 23 rfl _ _ rfl rfl (hcp2 _ _) ?_)
  go_ret
  exact HRET.out

set_option maxHeartbeats 4000000 in
set_option maxRecDepth 100000 in
theorem insV_end (base n c vb : Nat) (A : Option Addr) (xs vs : List Value) (w : World) (hn : n ≤ 2000) (hnc : n ≤ c) (hcm : c ≤ maxLen) (hbase : base ≤ w.heap.size) (ho : w.ownsRow base 75 5 (.slice A n c) n xs)
    (hv : Box w vb 75 vs.toArray) (hvl : vs.length = 5) (h1v : ∀ u ∈ vs, u.oneCell' = true) :
    Calls Try.prog 105 #[.slice A n c, .int .i64 n, .slice (some ⟨vb, 0, none⟩) 1 1] w (InsIs base 75 5 n (xs ++ vs) (Value.ownBlock (.slice A n c)) w) := by
  obtain ⟨i0, hi, hz0, hz1, hz2⟩ := info_parts info_seen
  unfold maxLen at hcm
  have hr := rdG_box (n := 1) (s := 5) (xs := vs) hv rfl (by omega)
  have HO := Lib.hid ho
  have HR := Lib.hid hr
  have H1 := Lib.hid h1v
  clear ho hr h1v hv hvl
  go_enter Try.func105, Try.ntmps105
  go_wp2_with (at_builtin; refine wpList_append_g _ rfl _ _ 23 rfl base 75 i0 _ 5 48 Try.underlying23 hi hz0 hz1 hz2 rfl (by omega) (.slice A n c) _ _ rfl HO.out (some ⟨vb, 0, none⟩) 1 1 vs rfl HR.out H1.out (by unfold maxLen; omega) (by omega) hbase ?_; intro v2 w2 hown2 hg2 hob2)
  all_goals
    obtain ⟨A', c', rfl, _, _⟩ := own_form hown2
    go_ret
    refine ⟨A', c', rfl, hown2, ?_, ?_⟩
    · rcases A with _ | _ <;> exact hg2
    · rcases A with _ | _ <;> exact hob2

set_option maxHeartbeats 4000000 in
set_option maxRecDepth 100000 in
theorem insV_grow (base b n i vb : Nat) (xs vs : List Value) (cur : Array Value) (w : World) (hi : i < n) (hn : n ≤ 2000) (hbw : base ≤ w.heap.size)
    (hx : Box w b 75 cur) (htk : cur.toList.take (n * 5) = xs) (hl : xs.length = n * 5)
    (hv : Box w vb 75 vs.toArray) (hvl : vs.length = 5) (h1 : ∀ u ∈ xs, u.oneCell' = true) (h1v : ∀ u ∈ vs, u.oneCell' = true) :
    Calls Try.prog 105 #[.slice (some ⟨b, 0, none⟩) n n, .int .i64 i, .slice (some ⟨vb, 0, none⟩) 1 1] w (InsIs base 75 5 n (xs.take (i * 5) ++ vs ++ xs.drop (i * 5)) (some b) w) := by
  obtain ⟨i0, hi0, hz0, hz1, hz2⟩ := info_parts info_seen
  have hinfo : (Try.prog.info? 75).map (·.size) = some 5 := by rw [hi0]; simp [hz1]
  have hxc : ∀ j v, xs[j]? = some v → w.cell? ⟨b, j, none⟩ = some v := by
    intro j v hj
    have hjl := (List.getElem?_eq_some_iff.1 hj).1
    rw [hx.cell j, ← Array.getElem?_toList, ← hj, ← htk, List.getElem?_take, if_pos (by omega)]
  have hdl : (xs.drop (i * 5)).length = ((n - i) * 5) := by rw [List.length_drop, hl]; omega
  have hold : (Builtin.firstCells i0.size i (.slice (some ⟨b, 0, none⟩) i n)).run Try.prog w.drew = .ok (xs.take (i * 5)).toArray w.drew := by
    rw [hz1]
    exact run_firstCells_some w.drew 5 i ⟨b, 0, none⟩ i n (xs.take (i * 5)) (by rw [List.length_take, hl]; omega) (fun j v hj => by
      rw [Addr.add_lit]
      rw [List.getElem?_take] at hj
      split at hj
      · rw [Nat.zero_add]; exact hxc j v hj
      · cases hj)
  have hcur : ∀ (j : Nat) (v : Value), xs[j]? = some v → cur[j]? = some v := by
    intro j v hj
    rw [← hx.cell j]
    exact hxc j v hj
  obtain ⟨G, hG⟩ : ∃ G, G = grownCap w (n + 1) n 75 := ⟨_, rfl⟩
  obtain ⟨zc, hzc⟩ : ∃ zc : Array Value, zc = (.agg #[.int .i64 0, .int .i64 0, .int .i64 0, .int .i64 0, .string ⟨#[]⟩] : Value).cells := ⟨_, rfl⟩
  have hzs : zc.size = 5 := by rw [hzc]; rfl
  have hsz0 : ∀ k, (Builtin.zeroCells zc k).size = k * 5 := fun k => by simp [Builtin.zeroCells, hzs]
  have hrz : ∀ ty, (Builtin.append_ #[23, 3] ty #[.slice (some ⟨b, 0, none⟩) i n, .int .i64 ((n : Int) + 1 - (i : Int))]).run Try.prog w =
      .ok (.slice (some ⟨w.heap.size, 0, none⟩) (n + 1) G) (w.drew.alloc (.cells ((xs.take (i * 5)).toArray ++ Builtin.zeroCells zc (n + 1 - i) ++ Builtin.zeroCells zc (G - (n + 1))) 75)) := fun ty => by
    have h := Lib.run_append_grow_zeros (P := Try.prog) w 23 3 ty 75 i0 _ .i64 .i64 Try.underlying23 Try.underlying3 hi0 hz0 (some ⟨b, 0, none⟩) i n (xs.take (i * 5)) hold (n + 1 - i) (by omega) (by omega) (by omega) (by omega) (by rw [hz2]; omega)
      (by rw [hz2, show i + (n + 1 - i) = n + 1 by omega]; exact growslice_fits (by omega) (by omega))
    rw [show i + (n + 1 - i) = n + 1 by omega, ← hG, ← hzc] at h
    rw [show (n : Int) + 1 - (i : Int) = ((n + 1 - i : Nat) : Int) by omega]
    exact h
  have hGn : n + 1 ≤ G := by rw [hG]; exact grownCap_ge w _ _ _
  have hGm : G ≤ maxLen := by rw [hG]; exact grownCap_le_maxLen w (n + 1) n 75 (by unfold maxLen; omega)
  obtain ⟨ROW, hROW⟩ : ∃ ROW : Array Value, ROW = (xs.take (i * 5)).toArray ++ Builtin.zeroCells zc (n + 1 - i) ++ Builtin.zeroCells zc (G - (n + 1)) := ⟨_, rfl⟩
  have hRs : ROW.size = G * 5 := by
    rw [hROW]
    simp only [Array.size_append, hsz0, List.size_toArray, List.length_take, hl]
    omega
  have hRt : ROW.toList.take (i * 5) = xs.take (i * 5) := by
    rw [hROW]
    simp only [Array.toList_append, List.append_assoc]
    rw [List.take_append_of_le_length (by simp [hl]; omega), List.take_take, Nat.min_self]
  rw [← hROW] at hrz
  clear hROW hzc hsz0 hzs hold
  obtain ⟨g, hg⟩ : ∃ g, g = w.heap.size := ⟨_, rfl⟩
  obtain ⟨W1, hW1⟩ : ∃ W1, W1 = w.drew.alloc (.cells ROW 75) := ⟨_, rfl⟩
  have bN : Box W1 g 75 ROW := by rw [hW1]; exact Box.new_at (w := w.drew) g hg.symm
  have bB : Box W1 b 75 cur := by rw [hW1]; exact Box.alloc (w := w.drew) hx _
  have bV : Box W1 vb 75 vs.toArray := by rw [hW1]; exact Box.alloc (w := w.drew) hv _
  have hbg : b ≠ g := by have := hx.lt; omega
  have hg0 : w.grownBy W1 (some b) := by rw [hW1]; exact grown_alloc (a := w) (b := w.drew) ⟨rfl, rfl, rfl, Nat.le_refl _, fun _ _ _ => rfl⟩ _
  have hs1 : w.heap.size ≤ W1.heap.size := hg0.size
  rw [← hW1, ← hg] at hrz
  clear hW1 hx hv htk
  obtain ⟨cu1, bx1, e1⟩ := box_setCells vs (i * 5) W1 ROW bN (by rw [hvl, hRs]; omega)
  have g1 := grown_setCells g vs (i * 5) W1
  have hcp1 : ∀ ty dc, (Builtin.copy_ #[23, 23] ty #[.slice (some ⟨g, i * 5, none⟩) (n + 1 - i) dc, .slice (some ⟨vb, 0, none⟩) 1 1]).run Try.prog W1 = .ok (goInt 1) (W1.setCells g (i * 5) vs) := fun ty dc => by
    have := run_copy_s (P := Try.prog) W1 23 23 ty 75 5 g (i * 5) (n + 1 - i) dc ⟨vb, 0, none⟩ 1 1 vs Try.underlying23 hinfo (by rw [hvl]; simp only [Nat.min_def]; split <;> omega)
      (fun j v hj => by rw [Addr.add_lit, bV.cell]; simpa using hj)
      (fun j hj => bN.isSome (by omega)) (fun j hj => bN.frozen _) h1v
    rw [this]
    congr 2
    simp only [Nat.min_def]; split <;> omega
  obtain ⟨W2, hW2⟩ : ∃ W2, W2 = W1.setCells g (i * 5) vs := ⟨_, rfl⟩
  rw [← hW2] at hcp1 bx1 g1
  clear hW2
  have bB2 : Box W2 b 75 cur := Box.grown bB g1 (by simpa using hbg)
  have hsz1 : cu1.size = ROW.size := by rw [← Array.length_toList, e1]; simp [hvl]; omega
  have hcp2 : ∀ ty dc sc, (Builtin.copy_ #[23, 23] ty #[.slice (some ⟨g, (i + 1) * 5, none⟩) (n - i) dc, .slice (some ⟨b, i * 5, none⟩) (n - i) sc]).run Try.prog W2.drew = .ok (goInt (n - i)) (W2.drew.setCells g ((i + 1) * 5) (xs.drop (i * 5))) := fun ty dc sc => by
    have := run_copy_s (P := Try.prog) W2.drew 23 23 ty 75 5 g ((i + 1) * 5) (n - i) dc ⟨b, i * 5, none⟩ (n - i) sc (xs.drop (i * 5)) Try.underlying23 hinfo (by rw [hdl]; simp only [Nat.min_def]; split <;> omega)
      (fun j v hj => by rw [Addr.add_lit, Box.cell (w := W2.drew) bB2]; exact hcur _ v (by rw [List.getElem?_drop] at hj; simpa using hj))
      (fun j hj => Box.isSome (w := W2.drew) bx1 (by rw [hdl] at hj; omega)) (fun j hj => Box.frozen (w := W2.drew) bx1 _) (fun v hv => h1 v (List.mem_of_mem_drop hv))
    rw [this]
    congr 2
    simp only [Nat.min_def]; split <;> omega
  obtain ⟨cu2, bx2, e2⟩ := box_setCells (xs.drop (i * 5)) ((i + 1) * 5) W2.drew cu1 bx1 (by rw [hdl, hsz1, hRs]; omega)
  have g2 := grown_setCells g (xs.drop (i * 5)) ((i + 1) * 5) W2.drew
  obtain ⟨W3, hW3⟩ : ∃ W3, W3 = W2.drew.setCells g ((i + 1) * 5) (xs.drop (i * 5)) := ⟨_, rfl⟩
  rw [← hW3] at hcp2 bx2 g2
  clear hW3
  have hfin := set_new_first (L := ROW.toList) (xs := xs.take (i * 5)) (ys := xs.drop (i * 5)) (vs := vs) (a := i * 5) (s := 5) (r := ((n - i) * 5)) (L1 := cu1.toList) (L2 := cu2.toList)
    hRt hvl hdl (by simp [hRs]; omega) (by rw [List.length_take, hl]; omega) e1 (by have := e2; rwa [show (i + 1) * 5 = i * 5 + 5 by omega] at this)
  have hret : InsIs base 75 5 n (xs.take (i * 5) ++ vs ++ xs.drop (i * 5)) (some b) w (.returned (.slice (some ⟨g, 0, none⟩) (n + 1) G)) W3 :=
    ⟨_, G, rfl, ⟨by simp [hl, hvl]; omega, .inr ⟨g, G, cu2, rfl, by omega, bx2, hGn, hGm, by rw [← Array.length_toList, hfin.2]; simpa using hRs, by rw [← hfin.1]; congr 1; omega⟩⟩,
      grown_more hg0 (grown_more (a := W1) (r := some g) g1 (b := W2) ⟨g2.os, g2.tape, g2.output, g2.size, g2.block⟩ (.inl rfl)) (.inr fun k hk => by injection hk with hk; omega), .inr (by rw [← hg]; rfl)⟩
  have HRET := Lib.hid hret
  clear hret hfin bx2 g2 e2 e1 bx1 g1 hsz1 bB bB2 bV bN hcur hRt hRs hg0 hs1 hdl hl hG hg
  have hz3 : ¬ ((i : Int) = (n : Int)) := by omega
  have hw1 : IntKind.i64.wrap ((i : Int) + 1) = (i : Int) + 1 := by rw [IntKind.wrap_i64]; omega
  have htn : ((i : Int) + 1).toNat = i + 1 := by omega
  have hb2 : ¬ (G = i + 1) := by omega
  have hb4 : ¬ (G = i) := by omega
  have hb6 : ¬ (n = i) := by omega
  have hin : i ≤ n := by omega
  have hb1 : (0 : Int) ≤ (i : Int) + 1 := by omega
  have hb3 : (i : Int) ≤ (n : Int) + 1 := by omega
  have hb5 : (i : Int) < (n : Int) := by omega
  have hb7 : (i : Int) ≤ (n : Int) := by omega
  have mixed : Try.prog.follows Departure.mixedOrders = true := by kernel_rfl
  unfold maxLen at hGm
  go_enter Try.func105, Try.ntmps105
  go_wp2_with (first
    | (at_builtin; refine Lib.wpList_append_run _ rfl _ _ _ _ rfl _ _ rfl rfl _ _ (hrz _) ?_)
    | (at_builtin; refine wpList_copy_go _ rfl _ _ 23 23 rfl _ _ rfl rfl (hcp1 _ _) ?_))
  go_region_law_o (refine step_copy_go rfl _ _ 23 23 rfl _ _ (by simp [Act.eval, Act.put]) (by simp [Act.eval, Act.put]) (hcp2 _ _ _) ?_)
  go_wp2_with fail
  go_ret
  exact HRET.out

theorem insV_any (base n c i vb : Nat) (A : Option Addr) (xs vs : List Value) (w : World) (hi : i ≤ n) (hn : n ≤ 2000) (hbase : base ≤ w.heap.size) (ho : w.ownsRow base 75 5 (.slice A n c) n xs)
    (hv : Box w vb 75 vs.toArray) (hvl : vs.length = 5) (hvb : Value.ownBlock (.slice A n c) ≠ some vb) (h1 : ∀ u ∈ xs, u.oneCell' = true) (h1v : ∀ u ∈ vs, u.oneCell' = true) :
    Calls Try.prog 105 #[.slice A n c, .int .i64 i, .slice (some ⟨vb, 0, none⟩) 1 1] w (InsIs base 75 5 n (xs.take (i * 5) ++ vs ++ xs.drop (i * 5)) (Value.ownBlock (.slice A n c)) w) := by
  have hl := ho.1
  have hform := own_form ho
  obtain ⟨_, _, e, hnc, hcm⟩ := hform
  injection e with e1 e2 e3
  subst e3
  by_cases hin : i = n
  · subst hin
    rw [List.take_of_length_le (by omega), List.drop_eq_nil_of_le (by omega), List.append_nil]
    exact insV_end base i c vb A xs vs w hn hnc hcm hbase ho hv hvl h1v
  · have hlt : i < n := by omega
    rcases ho.2 with ⟨_, h0⟩ | ⟨g, cap, cur, hs, hb, hx, hnc', hcm', hsz, htk⟩
    · omega
    · injection hs with e1 e2 e3
      subst e1
      subst e3
      by_cases hroom : n + 1 ≤ c
      · exact insV_shift base g n c i vb xs vs cur w hlt hn hroom hcm hb hx hsz htk hl hv hvl (by intro h; apply hvb; rw [h]; rfl) h1 h1v
      · obtain rfl : n = c := by omega
        exact insV_grow base g n i vb xs vs cur w hlt hn hbase hx htk hl hv hvl h1 h1v


end Go.Proofs.Ytohiemdodffhoaa.SP

namespace Go.Proofs.Ytohiemdodffhoaa.SP
open Go.RowKit Go.Lib Go.Shelf
set_option linter.unusedVariables false
set_option linter.unusedSimpArgs false
set_option maxRecDepth 100000

theorem run_clear_s {P : Program} (w : World) (t e ty : TypeId) (z : Value) (s : Nat) (ht : P.underlying t = some (.slice e)) (hv : ∀ w, (zeroValue e).run P w = .ok z w) (hz : z.cells.size = s) (hs : 0 < s) (h1 : ∀ v ∈ z.cells, v.oneCell' = true) (b o n c : Nat) (hn : 0 < n)
    (hc : ∀ j, j < n * s → (w.cell? ⟨b, o + j, none⟩).isSome = true) (hf : ∀ j, j < n * s → w.frozen? ⟨b, o + j, none⟩ = false) :
    ∃ zs : List Value, zs.length = n * s ∧ (Builtin.clear_ #[t] ty #[.slice (some ⟨b, o, none⟩) n c]).run P w = .ok (.tuple #[]) (w.setCells b o zs) := by
  have hl : (Builtin.zeroCells z.cells n).toList.length = n * s := by simp [Builtin.zeroCells, hz]
  have hone : ∀ v ∈ (Builtin.zeroCells z.cells n).toList, v.oneCell' = true := by
    intro v hv'
    simp only [Builtin.zeroCells, Array.toList_map, List.mem_map] at hv'
    obtain ⟨i, _, rfl⟩ := hv'
    have hlt : i % z.cells.size < z.cells.size := Nat.mod_lt _ (by omega)
    rw [getElem!_pos z.cells _ hlt]
    exact h1 _ (Array.getElem_mem hlt)
  have hst := run_storeCells_cells (P := P) b o (Builtin.zeroCells z.cells n).toList 0 w (by rw [hl]; simpa using hc) (by rw [hl]; simpa using hf) hone
  simp only [Nat.add_zero] at hst
  obtain ⟨m, rfl⟩ : ∃ m, n = m + 1 := ⟨n - 1, by omega⟩
  refine ⟨_, hl, ?_⟩
  simp [Builtin.clear_, run_underlying ht, hv, hst]
theorem run_clear_none {P : Program} (w : World) (t e ty : TypeId) (ht : P.underlying t = some (.slice e)) (a : Option Addr) (c : Nat) :
    (Builtin.clear_ #[t] ty #[.slice a 0 c]).run P w = .ok (.tuple #[]) w := by
  rcases a with _ | a <;> simp [Builtin.clear_, run_underlying ht]
theorem wpList_append_rm {P : Program} (w : World) {ops : Array Oper} {rest : List Oper} {o : Oper} {a : Act} {Q : Exit → Act → World → Prop} (hgd : o.guard = none) (so x : Operand) (t : TypeId)
    (ho : o.op = .call { callee := .builtin .append, args := #[so, x], argTypes := #[t, t] })
    (e : TypeId) (i : TypeInfo) (size : Nat) (h1 : P.underlying t = some (.slice e)) (h2 : P.info? e = some i) (h4 : i.size = size)
    (b off n cap : Nat) (hs : a.eval so = .slice (some ⟨b, off, none⟩) n cap)
    (ad : Addr) (m c : Nat) (news : List Value) (hx : a.eval x = .slice (some ad) m c) (hn : news.length = m * size) (hc : ∀ j u, news[j]? = some u → w.cell? (ad.add j) = some u) (h1c : ∀ u ∈ news, u.oneCell' = true)
    (hroom : n + m ≤ cap) (hspare : ∀ j, j < news.length → (w.cell? ⟨b, off + n * size + j, none⟩).isSome = true ∧ w.frozen? ⟨b, off + n * size + j, none⟩ = false)
    (h : wpList P ops Q rest (a.put o.dst (.slice (some ⟨b, off, none⟩) (n + m) cap)) (w.setCells b (off + n * size) news)) : wpList P ops Q (o :: rest) a w := by
  subst h4
  have hrun := run_append_room_cells (P := P) w t o.type e i h1 h2 b off n cap ad m c news hn hc h1c hroom (fun j hj => (hspare j hj).1) (fun j hj => (hspare j hj).2)
  refine wpList_plain hgd fun K hK => ?_
  unfold Oper.wp execOp
  simp only [ho, resolve, invoke, builtin, Sem.run_bind, Sem.run_pure, Result.andThen_ok, List.map_toArray, List.map_cons, List.map_nil, hs, hx, hrun]
  exact hK _ _ h
/-- a row of votes of the call's own -/
def RowQ (base m : Nat) (xs : List Value) (ob : Option Nat) (w : World) (x : Ending) (w' : World) : Prop :=
  ∃ A c, x = .returned (.slice A m c) ∧ w'.ownsRow base 75 5 (.slice A m c) m xs ∧ w.grownBy w' ob
theorem zero_seen (w : World) : (zeroValue 75).run Try.prog w = .ok (.agg #[.int .i64 0, .int .i64 0, .int .i64 0, .int .i64 0, .string ⟨#[]⟩]) w := by
  obtain ⟨i0, hi, hz0, hz1, hz2⟩ := info_parts info_seen
  simp [zeroValue, typeInfo, hi, hz0]

set_option maxHeartbeats 4000000 in
theorem delV_any (base b n c i : Nat) (xs : List Value) (cur : Array Value) (w : World) (hi : i < n) (hn : n ≤ 2000) (hnc : n ≤ c) (hcm : c ≤ maxLen)
    (hbase : base ≤ b) (hx : Box w b 75 cur) (hsz : cur.size = c * 5) (htk : cur.toList.take (n * 5) = xs) (hl : xs.length = n * 5) (h1 : ∀ u ∈ xs, u.oneCell' = true) :
    Calls Try.prog 93 #[.slice (some ⟨b, 0, none⟩) n c, .int .i64 i, .int .i64 ((i : Int) + 1)] w (RowQ base (n - 1) (xs.take (i * 5) ++ xs.drop ((i + 1) * 5)) (some b) w) := by
  obtain ⟨i0, hi0, hz0, hz1, hz2⟩ := info_parts info_seen
  unfold maxLen at hcm
  have hxc : ∀ j v, xs[j]? = some v → w.cell? ⟨b, j, none⟩ = some v := by
    intro j v hj
    have hjl := (List.getElem?_eq_some_iff.1 hj).1
    rw [hx.cell j, ← Array.getElem?_toList, ← hj, ← htk, List.getElem?_take, if_pos (by omega)]
  obtain ⟨news, hnews⟩ : ∃ news, news = xs.drop ((i + 1) * 5) := ⟨_, rfl⟩
  have hdl : news.length = (n - (i + 1)) * 5 := by rw [hnews, List.length_drop, hl]; omega
  obtain ⟨A, hA, hsrc⟩ : ∃ A : Addr, (if c = i + 1 then (some ⟨b, 0, none⟩ : Option Addr) else some ⟨b, (i + 1) * 5, none⟩) = some A ∧ Hid (∀ t u, news[t]? = some u → w.drew.cell? (A.add t) = some u) := by
    by_cases h : c = i + 1
    · refine ⟨⟨b, 0, none⟩, by simp [h], fun t u hu => ?_⟩
      have h0 : news.length = 0 := by rw [hdl]; have : n - (i + 1) = 0 := by omega
                                      rw [this]
      rw [List.length_eq_zero_iff.1 h0] at hu
      simp at hu
    · refine ⟨⟨b, (i + 1) * 5, none⟩, by simp [h], fun t u hu => ?_⟩
      rw [Addr.add_lit]
      exact hxc _ u (by rw [hnews, List.getElem?_drop] at hu; simpa using hu)
  have s1 := Lib.hid hdl
  have s2 := Lib.hid (show ∀ u ∈ news, u.oneCell' = true from fun u hu => h1 u (List.mem_of_mem_drop (by rw [hnews] at hu; exact hu)))
  have s3 := Lib.hid (show ∀ t, t < news.length → (w.drew.cell? ⟨b, 0 + i * 5 + t, none⟩).isSome = true ∧ w.drew.frozen? ⟨b, 0 + i * 5 + t, none⟩ = false from fun t ht =>
    ⟨Box.isSome (w := w.drew) hx (by rw [hdl] at ht; omega), Box.frozen (w := w.drew) hx _⟩)
  obtain ⟨cu1, bx1, e1⟩ := box_setCells news (0 + i * 5) w.drew cur hx (by rw [hdl, hsz]; omega)
  have g1 := grown_setCells b news (0 + i * 5) w.drew
  obtain ⟨W1, hW1⟩ : ∃ W1, W1 = w.drew.setCells b (0 + i * 5) news := ⟨_, rfl⟩
  have HW := Lib.hid hW1
  rw [← hW1] at bx1 g1
  clear hW1
  have hsz1 : cu1.size = cur.size := by rw [← Array.length_toList, e1]; simp [hdl]; omega
  have hm : i + (n - (i + 1)) = n - 1 := by omega
  obtain ⟨zs, hzl, hclr⟩ := run_clear_s (P := Try.prog) W1 23 75 23 _ 5 Try.underlying23 zero_seen rfl (by omega) (by decide) b ((n - 1) * 5) (n - (n - 1)) (c - (n - 1)) (by omega)
    (fun j hj => bx1.isSome (by rw [hsz1, hsz]; omega)) (fun j hj => bx1.frozen _)
  have hcl : ∀ ty, (Builtin.clear_ #[23] ty #[.slice (some ⟨b, (n - 1) * 5, none⟩) (n - (n - 1)) (c - (n - 1))]).run Try.prog W1 = .ok (.tuple #[]) (W1.setCells b ((n - 1) * 5) zs) := fun ty => hclr
  obtain ⟨cu2, bx2, e2⟩ := box_setCells zs ((n - 1) * 5) W1 cu1 bx1 (by rw [hzl, hsz1, hsz]; omega)
  have g2 := grown_setCells b zs ((n - 1) * 5) W1
  have hfin : cu2.toList.take ((n - 1) * 5) = xs.take (i * 5) ++ news ∧ cu2.size = c * 5 := by
    have hc1 : cu1.toList.length = c * 5 := by rw [Array.length_toList, hsz1, hsz]
    have hc0 : cur.toList.length = c * 5 := by rw [Array.length_toList, hsz]
    constructor
    · rw [e2, List.append_assoc, List.take_append_of_le_length (by rw [List.length_take, hc1]; omega), List.take_take, Nat.min_eq_left (by omega), e1, List.take_append_of_le_length (by simp [hc0, hdl]; omega),
        List.take_of_length_le (by simp [hc0, hdl]; omega), ← htk, List.take_take, Nat.min_eq_left (by omega), Nat.zero_add]
    · rw [← Array.length_toList, e2]; simp [hc1, hzl]; omega
  have hret : RowQ base (n - 1) (xs.take (i * 5) ++ news) (some b) w (.returned (.slice (some ⟨b, 0, none⟩) (n - 1) c)) (W1.setCells b ((n - 1) * 5) zs) := by
    exact ⟨some ⟨b, 0, none⟩, c, rfl, ⟨by simp [hl, hdl]; omega, .inr ⟨b, c, cu2, rfl, hbase, bx2, by omega, by unfold maxLen; omega, hfin.2, hfin.1⟩⟩, grown_more (a := w) ⟨g1.os, g1.tape, g1.output, g1.size, g1.block⟩ g2 (.inl rfl)⟩
  have HRET := Lib.hid hret
  rw [← hnews]
  have hic : i ≤ c := by omega
  have hin : i ≤ n := by omega
  have hjc : i + 1 ≤ c := by omega
  have hjn : i + 1 ≤ n := by omega
  have htn : ((i : Int) + 1).toNat = i + 1 := by omega
  have hne : ¬ ((i : Int) = (i : Int) + 1) := by omega
  have hne2 : ((i : Int) == (i : Int) + 1) = false := by simp; omega
  have k1 : (0 : Int) ≤ (i : Int) + 1 := by omega
  have k2 : (i : Int) ≤ (i : Int) + 1 := by omega
  have k3 : (i : Int) + 1 ≤ (n : Int) := by omega
  have k4 : (i : Int) + 1 ≤ (c : Int) := by omega
  have k5 : (n : Int) ≤ (c : Int) := by omega
  have mixed : Try.prog.follows Departure.mixedOrders = true := by kernel_rfl
  clear hret hfin bx2 g2 e2 e1 bx1 g1 hsz1 hx hsz htk hxc hdl hnews hclr hzl hl h1
  go_enter Try.func93, Try.ntmps93
  go_wp2_with fail
  go_region_law_o (refine step_append_room rfl (.tmp 22) (.tmp 25) 23 rfl 75 i0 5 Try.underlying23 hi0 hz1 b 0 i c (by simp [Act.eval, Act.put]) A (n - (i + 1)) (c - (i + 1)) news (by simp [Act.eval, Act.put]) s1.out hsrc.out s2.out (by omega) s3.out ?_; rw [← HW.out])
  go_wp2_with fail
  go_ret
  exact HRET.out

theorem grown_of_below {a b : World} (h : Below a.heap.size a b) (r : Option Nat) : a.grownBy b r := ⟨h.os, h.tape, h.output, h.size, fun k hk _ => h.block k hk⟩
set_option maxHeartbeats 4000000 in
theorem replV_mid (base b n c i vb : Nat) (xs vs : List Value) (cur : Array Value) (w : World) (hi : i + 1 < n) (hn : n ≤ 2000) (hnc : n ≤ c) (hcm : c ≤ maxLen)
    (hbase : base ≤ b) (hx : Box w b 75 cur) (hsz : cur.size = c * 5) (htk : cur.toList.take (n * 5) = xs) (hl : xs.length = n * 5)
    (hv : Box w vb 75 vs.toArray) (hvl : vs.length = 5) (hvb : vb ≠ b) (h1 : ∀ u ∈ xs, u.oneCell' = true) (h1v : ∀ u ∈ vs, u.oneCell' = true) :
    Calls Try.prog 94 #[.slice (some ⟨b, 0, none⟩) n c, .int .i64 i, .int .i64 ((i : Int) + 1), .slice (some ⟨vb, 0, none⟩) 1 1] w (RowQ base n (xs.take (i * 5) ++ vs ++ xs.drop ((i + 1) * 5)) (some b) w) := by
  obtain ⟨i0, hi0, hz0, hz1, hz2⟩ := info_parts info_seen
  unfold maxLen at hcm
  have hinfo : (Try.prog.info? 75).map (·.size) = some 5 := by rw [hi0]; simp [hz1]
  have HX := Lib.hid hx
  have HV := Lib.hid hv
  have HT := Lib.hid (And.intro hsz (And.intro htk (And.intro hl (And.intro hvl (And.intro h1 h1v)))))
  have HI := Lib.hid hinfo
  have hic : i ≤ c := by omega
  have hin : i ≤ n := by omega
  have hjc : i + 1 ≤ c := by omega
  have hjn : i + 1 ≤ n := by omega
  have htn : ((i : Int) + 1).toNat = i + 1 := by omega
  have hne : ¬ ((i : Int) = (i : Int) + 1) := by omega
  have hne2 : ((i : Int) == (i : Int) + 1) = false := by simp; omega
  have hne3 : ((i : Int) + 1 == (n : Int)) = false := by simp; omega
  have hne4 : ¬ (c = i + 1) := by omega
  have hne5 : ¬ (c = i) := by omega
  have k1 : (0 : Int) ≤ (i : Int) + 1 := by omega
  have k2 : (i : Int) ≤ (i : Int) + 1 := by omega
  have k3 : (i : Int) + 1 ≤ (n : Int) := by omega
  have k4 : (i : Int) + 1 ≤ (c : Int) := by omega
  have k5 : (n : Int) ≤ (c : Int) := by omega
  have w1 : IntKind.i64.wrap ((i : Int) + 1) = (i : Int) + 1 := by rw [IntKind.wrap_i64]; omega
  have w2 : IntKind.i64.wrap ((i : Int) + 1 + ((n - (i + 1) : Nat) : Int)) = (n : Int) := by rw [IntKind.wrap_i64]; omega
  have w3 : (i : Int) + 1 + ((n - (i + 1) : Nat) : Int) = (n : Int) := by omega
  have k6 : decide ((c : Int) < (n : Int)) = false := by rw [decide_eq_false_iff_not]; omega
  have mixed : Try.prog.follows Departure.mixedOrders = true := by kernel_rfl
  clear hinfo hx hv hsz htk hl hvl h1 h1v
  go_enter Try.func94, Try.ntmps94
  go_wp2_with fail
  go_quiet (fail)
  go_upto_region 17 with (fail)
  obtain ⟨u, hu⟩ : ∃ u, u = w.drewN nq := ⟨_, rfl⟩
  have hbu : Below w.heap.size w u := by rw [hu]; exact below_drewN (Below.refl _ _) _
  rw [← hu]
  clear hu
  obtain ⟨hsz, htk, hl, hvl, h1, h1v⟩ := HT.out
  have hx := HX.out.below hbu HX.out.lt
  have hv := HV.out.below hbu HV.out.lt
  have hg0 := grown_of_below hbu (some b)
  have hxc : ∀ j v, xs[j]? = some v → u.cell? ⟨b, j, none⟩ = some v := by
    intro j v hj
    have hjl := (List.getElem?_eq_some_iff.1 hj).1
    rw [hx.cell j, ← Array.getElem?_toList, ← hj, ← htk, List.getElem?_take, if_pos (by omega)]
  have hdl : (xs.drop ((i + 1) * 5)).length = (n - (i + 1)) * 5 := by rw [List.length_drop, hl]; omega
  have hcp1 : ∀ ty dc, (Builtin.copy_ #[23, 23] ty #[.slice (some ⟨b, i * 5, none⟩) (n - i) dc, .slice (some ⟨vb, 0, none⟩) 1 1]).run Try.prog u = .ok (goInt 1) (u.setCells b (i * 5) vs) := fun ty dc => by
    have := run_copy_s (P := Try.prog) u 23 23 ty 75 5 b (i * 5) (n - i) dc ⟨vb, 0, none⟩ 1 1 vs Try.underlying23 HI.out (by rw [hvl]; simp only [Nat.min_def]; split <;> omega)
      (fun j v hj => by rw [Addr.add_lit, hv.cell]; simpa using hj)
      (fun j hj => hx.isSome (by omega)) (fun j hj => hx.frozen _) h1v
    rw [this]
    congr 2
    simp only [Nat.min_def]; split <;> omega
  obtain ⟨cu1, bx1, e1⟩ := box_setCells vs (i * 5) u cur hx (by rw [hvl, hsz]; omega)
  have g1 := grown_setCells b vs (i * 5) u
  obtain ⟨W1, hW1⟩ : ∃ W1, W1 = u.setCells b (i * 5) vs := ⟨_, rfl⟩
  rw [← hW1] at hcp1 bx1 g1
  clear hW1
  have hsz1 : cu1.size = cur.size := by rw [← Array.length_toList, e1]; simp [hvl]; omega
  have hcu1 : ∀ j v, (xs.drop ((i + 1) * 5))[j]? = some v → cu1[(i + 1) * 5 + j]? = some v := by
    intro j v hj
    have hjl := (List.getElem?_eq_some_iff.1 hj).1
    rw [hdl] at hjl
    have hc0 : cur.toList.length = c * 5 := by rw [Array.length_toList, hsz]
    rw [← Array.getElem?_toList, e1, List.getElem?_append_right (by simp [hc0, hvl]; omega), List.getElem?_drop]
    have e2 : (i * 5 + vs.length + ((i + 1) * 5 + j - (cur.toList.take (i * 5) ++ vs).length)) = (i + 1) * 5 + j := by simp [hc0, hvl]; omega
    rw [e2]
    rw [List.getElem?_drop] at hj
    rw [← htk, List.getElem?_take] at hj
    split at hj
    · exact hj
    · cases hj
  have hcp2 : ∀ ty dc sc, (Builtin.copy_ #[23, 23] ty #[.slice (some ⟨b, (i + 1) * 5, none⟩) (n - (i + 1)) dc, .slice (some ⟨b, (i + 1) * 5, none⟩) (n - (i + 1)) sc]).run Try.prog W1.drew = .ok (goInt (n - (i + 1))) (W1.drew.setCells b ((i + 1) * 5) (xs.drop ((i + 1) * 5))) := fun ty dc sc => by
    have := run_copy_s (P := Try.prog) W1.drew 23 23 ty 75 5 b ((i + 1) * 5) (n - (i + 1)) dc ⟨b, (i + 1) * 5, none⟩ (n - (i + 1)) sc (xs.drop ((i + 1) * 5)) Try.underlying23 HI.out (by rw [hdl]; simp only [Nat.min_def]; split <;> omega)
      (fun j v hj => by rw [Addr.add_lit, Box.cell (w := W1.drew) bx1]; exact hcu1 j v hj)
      (fun j hj => Box.isSome (w := W1.drew) bx1 (by rw [hdl] at hj; omega)) (fun j hj => Box.frozen (w := W1.drew) bx1 _) (fun v hv => h1 v (List.mem_of_mem_drop hv))
    rw [this]
    congr 2
    simp only [Nat.min_def]; split <;> omega
  obtain ⟨cu2, bx2, e2⟩ := box_setCells (xs.drop ((i + 1) * 5)) ((i + 1) * 5) W1.drew cu1 bx1 (by rw [hdl, hsz1, hsz]; omega)
  have g2 := grown_setCells b (xs.drop ((i + 1) * 5)) ((i + 1) * 5) W1.drew
  obtain ⟨W2, hW2⟩ : ∃ W2, W2 = W1.drew.setCells b ((i + 1) * 5) (xs.drop ((i + 1) * 5)) := ⟨_, rfl⟩
  rw [← hW2] at hcp2 bx2 g2
  clear hW2
  have hfin := set_new_first (L := cur.toList) (xs := xs.take (i * 5)) (ys := xs.drop ((i + 1) * 5)) (vs := vs) (a := i * 5) (s := 5) (r := (n - (i + 1)) * 5) (L1 := cu1.toList) (L2 := cu2.toList)
    (by rw [← htk, List.take_take, Nat.min_eq_left (by omega)]) hvl hdl (by simp [hsz]; omega) (by rw [List.length_take, hl]; omega) e1 (by have := e2; rwa [show (i + 1) * 5 = i * 5 + 5 by omega] at this ⊢)
  have hret : RowQ base n (xs.take (i * 5) ++ vs ++ xs.drop ((i + 1) * 5)) (some b) w (.returned (.slice (some ⟨b, 0, none⟩) n c)) W2 :=
    ⟨_, c, rfl, ⟨by simp [hl, hvl]; omega, .inr ⟨b, c, cu2, rfl, hbase, bx2, hnc, by unfold maxLen; omega, by rw [← Array.length_toList, hfin.2]; simpa using hsz, by rw [← hfin.1]; congr 1; omega⟩⟩, grown_more hg0 (grown_more (a := u) (b := W1) ⟨g1.os, g1.tape, g1.output, g1.size, g1.block⟩ ⟨g2.os, g2.tape, g2.output, g2.size, g2.block⟩ (.inl rfl)) (.inl rfl)⟩
  have HRET := Lib.hid hret
  have hcl : ∀ ty a c', (Builtin.clear_ #[23] ty #[.slice a 0 c']).run Try.prog W2 = .ok (.tuple #[]) W2 := fun ty a c' => run_clear_none W2 _ _ ty Try.underlying23 a c'
  clear hret hfin bx2 g2 e2 e1 bx1 g1 hsz1 hx hsz htk hv hvl hxc hcu1 hdl hl h1 h1v hg0 hbu
  go_wp2_with (at_builtin; refine wpList_copy_go _ rfl _ _ 23 23 rfl _ _ rfl rfl (hcp1 _ _) ?_)
  go_region_law_o (refine step_copy_go rfl _ _ 23 23 rfl _ _ (by simp [Act.eval, Act.put]) (by simp [Act.eval, Act.put]) (hcp2 _ _ _) ?_)
  go_wp2_with fail
  all_goals
    go_ret
    have hh := HRET.out
    rw [List.append_assoc] at hh
    first
      | exact hh
      | (have hcn : c = n := (by assumption); subst hcn; exact hh)
set_option maxHeartbeats 4000000 in
theorem replV_end (base b n c i vb : Nat) (xs vs : List Value) (cur : Array Value) (w : World) (hi : i + 1 = n) (hn : n ≤ 2000) (hnc : n ≤ c) (hcm : c ≤ maxLen)
    (hbase : base ≤ b) (hx : Box w b 75 cur) (hsz : cur.size = c * 5) (htk : cur.toList.take (n * 5) = xs) (hl : xs.length = n * 5)
    (hv : Box w vb 75 vs.toArray) (hvl : vs.length = 5) (h1v : ∀ u ∈ vs, u.oneCell' = true) :
    Calls Try.prog 94 #[.slice (some ⟨b, 0, none⟩) n c, .int .i64 i, .int .i64 ((i : Int) + 1), .slice (some ⟨vb, 0, none⟩) 1 1] w (RowQ base n (xs.take (i * 5) ++ vs ++ xs.drop ((i + 1) * 5)) (some b) w) := by
  obtain ⟨i0, hi0, hz0, hz1, hz2⟩ := info_parts info_seen
  subst hi
  unfold maxLen at hcm
  have hdl : xs.drop ((i + 1) * 5) = [] := List.drop_eq_nil_of_le (by omega)
  rw [hdl, List.append_nil]
  have s1 := Lib.hid (show vs.length = 1 * 5 by omega)
  have s0 := Lib.hid (show ∀ j u, vs[j]? = some u → w.cell? ((⟨vb, 0, none⟩ : Addr).add j) = some u from fun j u hj => by rw [Addr.add_lit, hv.cell]; simpa using hj)
  have s2 := Lib.hid h1v
  have s3 := Lib.hid (show ∀ t, t < vs.length → (w.cell? ⟨b, 0 + i * 5 + t, none⟩).isSome = true ∧ w.frozen? ⟨b, 0 + i * 5 + t, none⟩ = false from fun t ht => ⟨hx.isSome (by omega), hx.frozen _⟩)
  obtain ⟨cu1, bx1, e1⟩ := box_setCells vs (0 + i * 5) w cur hx (by rw [hvl, hsz]; omega)
  have g1 := grown_setCells b vs (0 + i * 5) w
  obtain ⟨W1, hW1⟩ : ∃ W1, W1 = w.setCells b (0 + i * 5) vs := ⟨_, rfl⟩
  have HW := Lib.hid hW1
  rw [← hW1] at bx1 g1
  clear hW1
  have hfin : cu1.toList.take ((i + 1) * 5) = xs.take (i * 5) ++ vs ∧ cu1.size = c * 5 := by
    have hc0 : cur.toList.length = c * 5 := by rw [Array.length_toList, hsz]
    constructor
    · rw [e1, List.take_append_of_le_length (by simp [hc0, hvl]; omega), List.take_of_length_le (by simp [hc0, hvl]; omega), ← htk, List.take_take, Nat.min_eq_left (by omega), Nat.zero_add]
    · rw [← Array.length_toList, e1]; simp [hc0, hvl]; omega
  have hret : RowQ base (i + 1) (xs.take (i * 5) ++ vs) (some b) w (.returned (.slice (some ⟨b, 0, none⟩) (i + 1) c)) W1 :=
    ⟨_, c, rfl, ⟨by simp [hl, hvl]; omega, .inr ⟨b, c, cu1, rfl, hbase, bx1, hnc, by unfold maxLen; omega, hfin.2, hfin.1⟩⟩, g1⟩
  have HRET := Lib.hid hret
  have hic : i ≤ c := by omega
  have htn : ((i : Int) + 1).toNat = i + 1 := by omega
  have hne : ¬ ((i : Int) = (i : Int) + 1) := by omega
  have hne2 : ((i : Int) == (i : Int) + 1) = false := by simp; omega
  have k1 : (0 : Int) ≤ (i : Int) + 1 := by omega
  have k2 : (i : Int) ≤ (i : Int) + 1 := by omega
  have k4 : (i : Int) + 1 ≤ (c : Int) := by omega
  clear hret hfin e1 bx1 g1 hx hsz htk hv hvl hdl hl h1v
  go_enter Try.func94, Try.ntmps94
  go_wp2_with (at_builtin; refine wpList_append_rm _ rfl _ _ 23 rfl 75 i0 5 Try.underlying23 hi0 hz1 b 0 i c rfl ⟨vb, 0, none⟩ 1 1 vs rfl s1.out s0.out s2.out (by omega) s3.out ?_; rw [← HW.out])
  go_ret
  exact HRET.out
end Go.Proofs.Ytohiemdodffhoaa.SP

namespace Go.Proofs.Ytohiemdodffhoaa.SM
set_option linter.unusedVariables false
set_option linter.unusedSimpArgs false

/-- how two places compare -/
def cmpI (a b : Int) : Int := if a < b then -1 else if b < a then 1 else 0
def cmpS (a b : Sn) : Int := if cmpI a.g b.g ≠ 0 then cmpI a.g b.g else cmpI a.s b.s
theorem cmpI_neg {a b : Int} : cmpI a b < 0 ↔ a < b := by unfold cmpI; split <;> (try split) <;> omega
theorem cmpI_zero {a b : Int} : cmpI a b = 0 ↔ a = b := by unfold cmpI; split <;> (try split) <;> omega
theorem cmpS_neg {a b : Sn} : cmpS a b < 0 ↔ lt a b = true := by
  rw [lt_iff]
  unfold cmpS
  split
  · rename_i h
    rw [cmpI_neg]
    have : a.g ≠ b.g := fun e => h (cmpI_zero.2 e)
    omega
  · rename_i h
    have : a.g = b.g := cmpI_zero.1 (Classical.not_not.1 h)
    rw [cmpI_neg]
    omega
theorem cmpS_zero {a b : Sn} : cmpS a b = 0 ↔ a.g = b.g ∧ a.s = b.s := by
  unfold cmpS
  split
  · rename_i h
    exact ⟨fun e => absurd e h, fun e => absurd (cmpI_zero.2 e.1) h⟩
  · rename_i h
    have : a.g = b.g := cmpI_zero.1 (Classical.not_not.1 h)
    rw [cmpI_zero]
    exact ⟨fun e => ⟨this, e⟩, fun e => e.2⟩
/-- where a vote stands; whether one stands there -/
def lpos (l : List Sn) (x : Sn) : Nat := (l.takeWhile (fun y => lt y x)).length
def here (l : List Sn) (x : Sn) : Bool := match l[lpos l x]? with
  | some y => decide (y.g = x.g ∧ y.s = x.s)
  | none => false
theorem lpos_le (l : List Sn) (x : Sn) : lpos l x ≤ l.length := (List.takeWhile_sublist _).length_le
theorem lpos_cons_lt {a x : Sn} {l : List Sn} (h : lt a x = true) : lpos (a :: l) x = lpos l x + 1 := by
  unfold lpos; rw [List.takeWhile_cons]; simp [h]
theorem lpos_cons_ge {a x : Sn} {l : List Sn} (h : lt a x = false) : lpos (a :: l) x = 0 := by
  unfold lpos; rw [List.takeWhile_cons]; simp [h]
theorem here_cons_lt {a x : Sn} {l : List Sn} (h : lt a x = true) : here (a :: l) x = here l x := by
  unfold here; rw [lpos_cons_lt h]; rfl
theorem here_cons_ge {a x : Sn} {l : List Sn} (h : lt a x = false) : here (a :: l) x = decide (a.g = x.g ∧ a.s = x.s) := by
  unfold here; rw [lpos_cons_ge h]; rfl
theorem cut_rises : ∀ {l : List Sn} (h : Rises l) (x : Sn), l.filter (fun y => lt y x) = l.take (lpos l x) ∧ l.filter (fun y => lt x y) = l.drop (lpos l x + (if here l x = true then 1 else 0))
  | [], _, x => by simp
  | a :: l, h, x => by
    obtain ⟨h1, h2⟩ := List.pairwise_cons.1 h
    obtain ⟨i1, i2⟩ := cut_rises h2 x
    cases hax : lt a x
    · have hn : ∀ y ∈ l, lt y x = false := fun y hy => by
        cases hyx : lt y x
        · rfl
        · rw [lt_trans (h1 y hy) hyx] at hax; cases hax
      rw [lpos_cons_ge hax, here_cons_ge hax]
      have e1 : (a :: l).filter (fun y => lt y x) = [] := by
        rw [List.filter_eq_nil_iff]
        intro y hy
        rcases List.mem_cons.1 hy with rfl | hy
        · rw [hax]; decide
        · rw [hn y hy]; decide
      refine ⟨by rw [e1]; rfl, ?_⟩
      by_cases hs : a.g = x.g ∧ a.s = x.s
      · have hxa : lt x a = false := by
          cases k : lt x a
          · rfl
          · rw [lt_iff] at k; omega
        rw [decide_eq_true hs, if_pos rfl, List.filter_cons, hxa]
        simp only [Bool.false_eq_true, if_false, Nat.zero_add, List.drop_one, List.tail_cons]
        refine List.filter_eq_self.2 fun y hy => ?_
        have := h1 y hy
        rw [lt_iff] at this ⊢
        omega
      · have hxa : lt x a = true := by
          cases k : lt x a
          · exact absurd (lt_total hax k) hs
          · rfl
        rw [decide_eq_false hs]
        simp only [Bool.false_eq_true, if_false, Nat.add_zero, List.drop_zero]
        refine List.filter_eq_self.2 fun y hy => ?_
        rcases List.mem_cons.1 hy with rfl | hy
        · exact hxa
        · exact lt_trans hxa (h1 y hy)
    · rw [lpos_cons_lt hax, here_cons_lt hax]
      have hxa := lt_asymm hax
      refine ⟨by rw [List.filter_cons, hax, List.take_succ_cons, i1]; rfl, ?_⟩
      rw [List.filter_cons, hxa, i2, show lpos l x + 1 + (if here l x = true then 1 else 0) = (lpos l x + (if here l x = true then 1 else 0)) + 1 by omega, List.drop_succ_cons]
      rfl
theorem put_pos {l : List Sn} (h : Rises l) (x : Sn) : put l x = l.take (lpos l x) ++ ((if x.o = vz then [] else [x]) ++ l.drop (lpos l x + (if here l x = true then 1 else 0))) := by
  obtain ⟨h1, h2⟩ := cut_rises h x
  unfold put
  rw [h1, h2]
theorem here_lt {l : List Sn} {x : Sn} (h : here l x = true) : lpos l x < l.length := by
  unfold here at h
  rcases hk : l[lpos l x]? with _ | y
  · rw [hk] at h; cases h
  · exact (List.getElem?_eq_some_iff.1 hk).1
theorem find_here {l : List Sn} : ∀ (h : Rises l) (x : Sn), find l x.g x.s = match l[lpos l x]? with
    | some y => if here l x = true then y.o else vz
    | none => vz := by
  induction l with
  | nil => intro _ x; rfl
  | cons a l ih =>
    intro h x
    obtain ⟨h1, h2⟩ := List.pairwise_cons.1 h
    cases hax : lt a x
    · rw [lpos_cons_ge hax, here_cons_ge hax]
      simp only [List.getElem?_cons_zero]
      rw [find]
      by_cases hs : a.g = x.g ∧ a.s = x.s
      · rw [if_pos hs, decide_eq_true hs, if_pos rfl]
      · rw [if_neg hs, decide_eq_false hs, if_neg (by decide)]
        refine find_no fun y hy hq => ?_
        have := h1 y hy
        rw [lt_iff] at this
        have h3 : ¬ (lt a x = true) := by rw [hax]; decide
        rw [lt_iff] at h3
        omega
    · rw [lpos_cons_lt hax, here_cons_lt hax, find, if_neg (by rw [lt_iff] at hax; omega), ih h2 x]
      rfl
/-- the place where the comparison turns -/
theorem lpos_of {l : List Sn} {x : Sn} {k : Nat} (hk : k ≤ l.length) (h1 : ∀ t a, t < k → l[t]? = some a → lt a x = true) (h2 : ∀ a, l[k]? = some a → lt a x = false) : lpos l x = k := by
  induction l generalizing k with
  | nil => simp at hk; subst hk; rfl
  | cons a l ih =>
    rcases k with _ | k
    · exact lpos_cons_ge (h2 a rfl)
    · rw [lpos_cons_lt (h1 0 a (by omega) rfl), ih (by simpa using hk) (fun t b ht hb => h1 (t + 1) b (by omega) (by simpa using hb)) (fun b hb => h2 b (by simpa using hb))]
theorem rises_get {l : List Sn} (h : Rises l) {i j : Nat} {a b : Sn} (hij : i < j) (ha : l[i]? = some a) (hb : l[j]? = some b) : lt a b = true := by
  rw [Rises, List.pairwise_iff_getElem] at h
  obtain ⟨h1, e1⟩ := List.getElem?_eq_some_iff.1 ha
  obtain ⟨h2, e2⟩ := List.getElem?_eq_some_iff.1 hb
  rw [← e1, ← e2]
  exact h i j h1 h2 hij
theorem may_rises {x : Sb} (h : may x) : Rises x.votes := (rise_iff _).1 h.2.2.2
end Go.Proofs.Ytohiemdodffhoaa.SM

namespace Go.Proofs.Ytohiemdodffhoaa.SP
open Go.RowKit
open SM (Sn Sb Vo)
set_option linter.unusedVariables false
set_option linter.unusedSimpArgs false
set_option maxRecDepth 100000

theorem isnan_any (x : Int) (w : World) : Calls Try.prog 112 #[.int .i64 x] w fun e w' => e = .returned (.bool false) ∧ w = w' := by
  have h : ((x : Int) != x) = false := by simp
  go_enter Try.func112, Try.ntmps112
  go_wp2_with fail
  go_ret
  exact ⟨by simp, rfl⟩
set_option maxHeartbeats 1000000 in
theorem compare_any (a b : Int) (w : World) : Calls Try.prog 101 #[.int .i64 a, .int .i64 b] w fun e w' => e = .returned (.int .i64 (SM.cmpI a b)) ∧ w = w' := by
  obtain ⟨z, hz⟩ : ∃ z, z = SM.cmpI a b := ⟨_, rfl⟩
  rw [← hz]
  unfold SM.cmpI at hz
  rcases (show a < b ∨ (¬ a < b ∧ b < a) ∨ (¬ a < b ∧ ¬ b < a) by omega) with h1 | ⟨h1, h2⟩ | ⟨h1, h2⟩
  · obtain rfl : z = -1 := by rw [hz, if_pos h1]
    clear hz
    go_enter Try.func101, Try.ntmps101
    go_wp2_with fail
    refine (isnan_any a w).mono ?_
    rintro e w1 ⟨rfl, rfl⟩
    go_wp2_with fail
    refine (isnan_any b w).mono ?_
    rintro e w1 ⟨rfl, rfl⟩
    go_wp2_with fail
    go_ret
    exact ⟨rfl, rfl⟩
  · obtain rfl : z = 1 := by rw [hz, if_neg h1, if_pos h2]
    clear hz
    go_enter Try.func101, Try.ntmps101
    go_wp2_with fail
    refine (isnan_any a w).mono ?_
    rintro e w1 ⟨rfl, rfl⟩
    go_wp2_with fail
    refine (isnan_any b w).mono ?_
    rintro e w1 ⟨rfl, rfl⟩
    go_wp2_with fail
    go_ret
    exact ⟨rfl, rfl⟩
  · obtain rfl : z = 0 := by rw [hz, if_neg h1, if_neg h2]
    clear hz
    go_enter Try.func101, Try.ntmps101
    go_wp2_with fail
    refine (isnan_any a w).mono ?_
    rintro e w1 ⟨rfl, rfl⟩
    go_wp2_with fail
    refine (isnan_any b w).mono ?_
    rintro e w1 ⟨rfl, rfl⟩
    go_wp2_with fail
    go_ret
    exact ⟨rfl, rfl⟩
set_option maxHeartbeats 1000000 in
theorem or_any (bl : Nat) (z y x : Int) (w : World) (h : Box w bl 3 #[.int .i64 z, .int .i64 y]) (hx : x = if z ≠ 0 then z else y) :
    Calls Try.prog 100 #[.slice (some ⟨bl, 0, none⟩) 2 2] w fun e w' => e = .returned (.int .i64 x) ∧ w = w' := by
  have c0 := h.cell 0
  have c1 := h.cell 1
  simp at c0 c1
  have HX := Lib.hid hx
  clear h hx
  go_enter Try.func100, Try.ntmps100
  go_wp2_with fail
  go_loop [8] (fun i => ∃ k : Nat, k ≤ 2 ∧ i = .int .i64 k ∧ Hid ((1 ≤ k → z = 0) ∧ (2 ≤ k → y = 0))) (fun i => 2 - (intOf i).toNat)
  case atStart => exact ⟨0, by omega, rfl, Lib.hid ⟨by omega, by omega⟩⟩
  case round =>
    obtain ⟨k, hk, rfl, HK⟩ := hrel
    rcases (show k = 0 ∨ k = 1 ∨ k = 2 by omega) with rfl | rfl | rfl
    · by_cases hz : z = 0
      · have HZ := Lib.hid hz
        have hb : (z != 0) = false := by simp [hz]
        clear hz
        go_wp2_with fail
        go_round
        case rel => exact ⟨1, by omega, rfl, Lib.hid ⟨fun _ => HZ.out, by omega⟩⟩
        case measure => simp [intOf]
      · have HZ := Lib.hid (show x = z by rw [HX.out, if_pos hz])
        have hb : (z != 0) = true := by simp [hz]
        clear hz
        go_wp2_with fail
        go_ret
        exact ⟨by rw [HZ.out]; rfl, rfl⟩
    · have hz := HK.out.1 (by omega)
      by_cases hy : y = 0
      · have HZ := Lib.hid (And.intro hz hy)
        have hb : (y != 0) = false := by simp [hy]
        clear hz hy
        go_wp2_with fail
        go_round
        case rel => exact ⟨2, by omega, rfl, Lib.hid ⟨fun _ => HZ.out.1, fun _ => HZ.out.2⟩⟩
        case measure => simp [intOf]
      · have HZ := Lib.hid (show x = y by rw [HX.out, if_neg (fun h => h hz)])
        have hb : (y != 0) = true := by simp [hy]
        clear hy hz
        go_wp2_with fail
        go_ret
        exact ⟨by rw [HZ.out]; rfl, rfl⟩
    · have HZ := Lib.hid (show x = 0 by rw [HX.out, if_neg (fun h => h (HK.out.1 (by omega)))]; exact HK.out.2 (by omega))
      go_wp2_with fail
      go_ret
      exact ⟨by rw [HZ.out]; rfl, rfl⟩
/-- a vote at its place, by value -/
def vsn (x : Sn) : Value := .agg #[.int .i64 x.g, .int .i64 x.s, .int .i64 x.o.p, .int .i64 x.o.b, .string x.o.v]
set_option maxHeartbeats 4000000 in
theorem byplace_any (a b : Sn) (w : World) : Calls Try.prog 80 #[vsn a, vsn b] w fun e w' => e = .returned (.int .i64 (SM.cmpS a b)) ∧ Below w.heap.size w w' := by
  obtain ⟨z, hz⟩ : ∃ z, z = SM.cmpI a.g b.g := ⟨_, rfl⟩
  obtain ⟨y, hy⟩ : ∃ y, y = SM.cmpI a.s b.s := ⟨_, rfl⟩
  obtain ⟨x, hx⟩ : ∃ x, x = SM.cmpS a b := ⟨_, rfl⟩
  have HX := Lib.hid (show x = if z ≠ 0 then z else y by rw [hx, hz, hy]; rfl)
  rw [← hx]
  have C1 := Lib.hid (fun w => compare_any a.g b.g w)
  have C2 := Lib.hid (fun w => compare_any a.s b.s w)
  rw [← hz] at C1
  rw [← hy] at C2
  clear hz hy hx
  unfold vsn
  obtain ⟨ag, asl, ⟨ap, ab, av⟩⟩ := a
  obtain ⟨bg, bs, ⟨bp, bb, bv⟩⟩ := b
  simp only at C1 C2 ⊢
  have HB := Lib.hid (show Below w.heap.size w ((w.alloc (.cells #[.int .i64 ag, .int .i64 asl, .int .i64 ap, .int .i64 ab, .string av] 75)).alloc (.cells #[.int .i64 bg, .int .i64 bs, .int .i64 bp, .int .i64 bb, .string bv] 75)) from
    ((Below.refl _ _).alloc (Nat.le_refl _) _).alloc (by simp) _)
  have X := Lib.hid ((Box.new w 75 #[.int .i64 ag, .int .i64 asl, .int .i64 ap, .int .i64 ab, .string av]).alloc (.cells #[.int .i64 bg, .int .i64 bs, .int .i64 bp, .int .i64 bb, .string bv] 75))
  have Y := Lib.hid (Box.new_at (w := w.alloc (.cells #[.int .i64 ag, .int .i64 asl, .int .i64 ap, .int .i64 ab, .string av] 75)) (t := 75) (cs := #[.int .i64 bg, .int .i64 bs, .int .i64 bp, .int .i64 bb, .string bv]) (w.heap.size + 1) (by simp))
  go_enter Try.func80, Try.ntmps80
  go_upto_region 1 with (fail)
  generalize (w.alloc (.cells #[.int .i64 ag, .int .i64 asl, .int .i64 ap, .int .i64 ab, .string av] 75)).alloc (.cells #[.int .i64 bg, .int .i64 bs, .int .i64 bp, .int .i64 bb, .string bv] 75) = w1 at HB X Y ⊢
  generalize hg : w.heap.size = g at X Y ⊢
  have HG := Lib.hid hg
  clear hg
  have HSS := Lib.hid (fun (w' : World) (h : Below w1.heap.size w1 w') => show w'.cell? ⟨g, 0, none⟩ = some (.int .i64 ag) ∧ w'.cell? ⟨g, 1, none⟩ = some (.int .i64 asl) ∧ w'.cell? ⟨g + 1, 0, none⟩ = some (.int .i64 bg) ∧ w'.cell? ⟨g + 1, 1, none⟩ = some (.int .i64 bs) from
    ⟨(X.out.below h X.out.lt).cell 0, (X.out.below h X.out.lt).cell 1, (Y.out.below h Y.out.lt).cell 0, (Y.out.below h Y.out.lt).cell 1⟩)
  obtain ⟨_, _, _, _⟩ := HSS.out w1 (Below.refl _ _)
  have bb1 : Below w1.heap.size w1 w1.drew := (Below.refl _ _).drew
  go_region_held3 (fun w' => w'.cell? ⟨g, 0, none⟩ = some (.int .i64 ag) ∧ w'.cell? ⟨g, 1, none⟩ = some (.int .i64 asl) ∧ w'.cell? ⟨g + 1, 0, none⟩ = some (.int .i64 bg) ∧ w'.cell? ⟨g + 1, 1, none⟩ = some (.int .i64 bs))
    (first | exact HSS.out _ bb1 | exact HSS.out _ (bb1.alloc bb1.size _) | go_keep)
    (first
      | (go_at_call 101; (first | (with_reducible refine (C1.out _).mono ?_) | (with_reducible refine (C2.out _).mono ?_)); rintro e w' ⟨rfl, rfl⟩)
      | (go_at_call 100; refine (or_any w1.heap.size z y x _ (Box.new w1.drew _ _) HX.out).mono ?_; rintro e w' ⟨rfl, rfl⟩))
  all_goals
    go_wp2_with fail
    go_ret
    exact ⟨rfl, HB.out.trans ((bb1.alloc bb1.size _).mono HB.out.size)⟩
end Go.Proofs.Ytohiemdodffhoaa.SP
