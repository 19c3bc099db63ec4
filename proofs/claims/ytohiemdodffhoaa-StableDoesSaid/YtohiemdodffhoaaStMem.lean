/-
  What lasts of a node in memory: rows of rows of texts, rows of votes at their places. No walk, no program.
-/
import Derived.Test.YtohiemdodffhoaaRowG
import Derived.Test.YtohiemdodffhoaaStMath
namespace Go.Proofs.Ytohiemdodffhoaa.SP
open Go.RowKit
open SM (Sn Sb Vo)
set_option linter.unusedVariables false
set_option linter.unusedSimpArgs false

/-- texts as cells -/
def tc (l : List ByteArray) : List Value := l.map Value.string
theorem tc_length (l : List ByteArray) : (tc l).length = l.length := by simp [tc]
theorem tc_append (l r : List ByteArray) : tc (l ++ r) = tc l ++ tc r := by simp [tc]
theorem tc_one (l : List ByteArray) : ∀ u ∈ tc l, u.oneCell' = true := by
  intro u hu
  simp only [tc, List.mem_map] at hu
  obtain ⟨b, _, rfl⟩ := hu
  rfl
theorem tc_get {l : List ByteArray} {k : Nat} {v : ByteArray} (h : l[k]? = some v) : (tc l)[k]? = some (.string v) := by simp [tc, h]
/-- a vote at its place, as cells -/
def sncell (x : Sn) : List Value := [.int .i64 x.g, .int .i64 x.s, .int .i64 x.o.p, .int .i64 x.o.b, .string x.o.v]
theorem sn_one (x : Sn) : ∀ u ∈ sncell x, u.oneCell' = true := by intro u hu; simp [sncell] at hu; rcases hu with rfl | rfl | rfl | rfl | rfl <;> rfl
theorem sn_len (l : List Sn) : ∀ a ∈ l, (sncell a).length = 5 := fun _ _ => rfl
theorem flat_sn (l : List Sn) : (flat sncell l).length = l.length * 5 := flat_length (sn_len l)
/-- a row's cells -/
theorem rd_text {w : World} {A : Option Addr} {n k : Nat} {l : List ByteArray} {v : ByteArray} (h : Rd w A n (tc l)) (hk : l[k]? = some v) : ∃ ad, A = some ad ∧ k < n ∧ w.cell? (ad.add k) = some (.string v) := by
  have hl : l.length = n := by have := h.1; rwa [tc_length] at this
  have hkl := (List.getElem?_eq_some_iff.1 hk).1
  obtain ⟨ad, u, e, _, hu, hc⟩ := h.at_ (k := k) (by omega)
  rw [tc_get hk] at hu
  injection hu with hu
  exact ⟨ad, e, by omega, by rw [hc, hu]⟩
theorem addr_add (bl o j : Nat) : (⟨bl, o, none⟩ : Addr).add j = ⟨bl, o + j, none⟩ := by unfold Addr.add; split <;> simp_all
/-- a row's address where it has elements -/
def Flat (A : Option Addr) (n : Nat) : Prop := 0 < n → ∃ bl o, A = some ⟨bl, o, none⟩
/-- the five cells of a vote in its row -/
theorem rdg_sn {w : World} {bl o m k : Nat} {l : List Sn} {x : Sn} (h : RdG w 5 (some ⟨bl, o, none⟩) m (flat sncell l)) (hk : l[k]? = some x) :
    w.cell? ⟨bl, o + k * 5, none⟩ = some (.int .i64 x.g) ∧ w.cell? ⟨bl, o + k * 5 + 1, none⟩ = some (.int .i64 x.s) ∧ w.cell? ⟨bl, o + k * 5 + 2, none⟩ = some (.int .i64 x.o.p) ∧
      w.cell? ⟨bl, o + k * 5 + 3, none⟩ = some (.int .i64 x.o.b) ∧ w.cell? ⟨bl, o + k * 5 + 4, none⟩ = some (.string x.o.v) := by
  have hkl := (List.getElem?_eq_some_iff.1 hk).1
  have hm : 0 < m := by
    have := h.1
    rw [flat_sn] at this
    omega
  obtain ⟨ad, e, _, hc⟩ := h.2 hm
  injection e with e
  subst e
  have hg : ∀ j u, j < 5 → (sncell x)[j]? = some u → w.cell? ⟨bl, o + k * 5 + j, none⟩ = some u := fun j u hj hu => by
    have := hc (k * 5 + j) u (by rw [flat_get (sn_len l) hk j hj]; exact hu)
    rw [addr_add] at this
    rw [show o + k * 5 + j = o + (k * 5 + j) by omega]
    exact this
  exact ⟨hg 0 _ (by omega) rfl, hg 1 _ (by omega) rfl, hg 2 _ (by omega) rfl, hg 3 _ (by omega) rfl, hg 4 _ (by omega) rfl⟩

/-- rows of texts -/
def Rws (w : World) (rows : List Value) (ls : List (List ByteArray)) : Prop :=
  rows.length = ls.length ∧ ∀ (i : Nat) l, ls[i]? = some l → ∃ B c, rows[i]? = some (.slice B l.length c) ∧ Rd w B l.length (tc l) ∧ l.length ≤ c ∧ c ≤ maxLen
def LogsIs (w : World) (A : Option Addr) (n c : Nat) (ls : List (List ByteArray)) : Prop := ∃ rows, Rd w A n rows ∧ Rws w rows ls ∧ ls.length = n ∧ n ≤ c ∧ c ≤ maxLen
def VotesIs (w : World) (B : Option Addr) (m d : Nat) (vs : List Sn) : Prop := RdG w 5 B m (flat sncell vs) ∧ vs.length = m ∧ m ≤ d ∧ d ≤ maxLen ∧ Flat B m
def SnFit (x : Sn) : Prop := (-9223372036854775808 ≤ x.g ∧ x.g ≤ 9223372036854775807) ∧ (-9223372036854775808 ≤ x.s ∧ x.s ≤ 9223372036854775807) ∧ (-9223372036854775808 ≤ x.o.p ∧ x.o.p ≤ 9223372036854775807) ∧ (-9223372036854775808 ≤ x.o.b ∧ x.o.b ≤ 9223372036854775807) ∧ x.o.v.size ≤ maxLen
def Fit (x : Sb) : Prop := (∀ l ∈ x.logs, ∀ v ∈ l, v.size ≤ maxLen) ∧ ∀ v ∈ x.votes, SnFit v
theorem Rws.below {w w' : World} {rows : List Value} {ls : List (List ByteArray)} (h : Rws w rows ls) (hb : Below w.heap.size w w') : Rws w' rows ls :=
  ⟨h.1, fun i l hi => by obtain ⟨B, c, h1, h2, h3, h4⟩ := h.2 i l hi; exact ⟨B, c, h1, h2.below hb, h3, h4⟩⟩
theorem LogsIs.below {w w' : World} {A : Option Addr} {n c : Nat} {ls : List (List ByteArray)} (h : LogsIs w A n c ls) (hb : Below w.heap.size w w') : LogsIs w' A n c ls := by
  obtain ⟨rows, h1, h2, h3⟩ := h
  exact ⟨rows, h1.below hb, h2.below hb, h3⟩
theorem VotesIs.below {w w' : World} {B : Option Addr} {m d : Nat} {vs : List Sn} (h : VotesIs w B m d vs) (hb : Below w.heap.size w w') : VotesIs w' B m d vs := ⟨h.1.below hb, h.2⟩
/-- it, by value -/
def StIs (w : World) (v : Value) (x : Sb) : Prop := ∃ A c B d, v = .agg #[.slice A x.logs.length c, .slice B x.votes.length d] ∧ LogsIs w A x.logs.length c x.logs ∧ VotesIs w B x.votes.length d x.votes
theorem StIs.below {w w' : World} {v : Value} {x : Sb} (h : StIs w v x) (hb : Below w.heap.size w w') : StIs w' v x := by
  obtain ⟨A, c, B, d, e, h1, h2⟩ := h
  exact ⟨A, c, B, d, e, h1.below hb, h2.below hb⟩
/-- a log's row -/
theorem logs_get {w : World} {A : Option Addr} {n c k : Nat} {ls : List (List ByteArray)} {l : List ByteArray} (h : LogsIs w A n c ls) (hk : ls[k]? = some l) :
    ∃ ad B d, A = some ad ∧ k < n ∧ w.cell? (ad.add k) = some (.slice B l.length d) ∧ Rd w B l.length (tc l) ∧ l.length ≤ d ∧ d ≤ maxLen := by
  obtain ⟨rows, h1, h2, h3, h4, h5⟩ := h
  obtain ⟨B, d, e, hr, hd, hm⟩ := h2.2 k l hk
  have hkl := (List.getElem?_eq_some_iff.1 hk).1
  obtain ⟨ad, u, ea, _, hu, hc⟩ := h1.at_ (k := k) (by omega)
  rw [e] at hu
  injection hu with hu
  exact ⟨ad, B, d, ea, by omega, by rw [hc, hu], hr, hd, hm⟩
end Go.Proofs.Ytohiemdodffhoaa.SP
