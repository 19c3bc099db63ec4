/-
  Plain mathematics of a disk: bytes, and writes that wait (a write: does it take all that is there away first, and its bytes). No program.
-/
namespace Go.Proofs.Ytkdnkaiknmcfmaa.DM

abbrev Wr := Bool × List UInt8
def step (b : List UInt8) (p : Wr) : List UInt8 := (if p.1 then [] else b) ++ p.2
/-- the bytes that are there behind the writes -/
def behind (b : List UInt8) (ps : List Wr) : List UInt8 := ps.foldl step b
theorem behind_nil (b : List UInt8) : behind b [] = b := rfl
theorem behind_snoc (b : List UInt8) (ps : List Wr) (p : Wr) : behind b (ps ++ [p]) = step (behind b ps) p := by simp [behind]
theorem behind_append (b : List UInt8) (ps qs : List Wr) : behind b (ps ++ qs) = behind (behind b ps) qs := by simp [behind]
theorem behind_take (b : List UInt8) (ps : List Wr) (k : Nat) (h : k < ps.length) : behind b (ps.take (k + 1)) = step (behind b (ps.take k)) ps[k] := by
  rw [List.take_succ_eq_append_getElem h, behind_snoc]
/-- how many bytes are there behind one write more -/
def more (n : Nat) (p : Wr) : Nat := (if p.1 then 0 else n) + p.2.length
theorem step_length (b : List UInt8) (p : Wr) : (step b p).length = more b.length p := by
  unfold step more; split <;> simp

/-- at most 2^20 bytes are there behind each of them -/
def fits (b : List UInt8) (ps : List Wr) : Prop := ∀ k, k ≤ ps.length → (behind b (ps.take k)).length ≤ 1048576
def may (b : List UInt8) (ps : List Wr) : Prop := ps.length ≤ 1024 ∧ fits b ps
instance (b : List UInt8) (ps : List Wr) : Decidable (fits b ps) := by unfold fits; infer_instance
instance (b : List UInt8) (ps : List Wr) : Decidable (may b ps) := by unfold may; infer_instance
theorem fits_zero {b : List UInt8} {ps : List Wr} (h : fits b ps) : b.length ≤ 1048576 := by have := h 0 (by omega); simpa [behind] using this
theorem fits_all {b : List UInt8} {ps : List Wr} (h : fits b ps) : (behind b ps).length ≤ 1048576 := by have := h ps.length (by omega); simpa using this
theorem fits_take {b : List UInt8} {ps : List Wr} (h : fits b ps) (k : Nat) : fits b (ps.take k) := by
  intro j hj
  rw [List.length_take] at hj
  rw [List.take_take, show min j k = j by omega]
  exact h j (by omega)
theorem fits_snoc {b : List UInt8} {ps : List Wr} {p : Wr} : fits b (ps ++ [p]) ↔ fits b ps ∧ more (behind b ps).length p ≤ 1048576 := by
  constructor
  · intro h
    refine ⟨?_, ?_⟩
    · have := fits_take h ps.length; simpa using this
    · have := fits_all h; rwa [behind_snoc, step_length] at this
  · rintro ⟨h, h1⟩ k hk
    rw [List.length_append] at hk
    simp at hk
    rcases Nat.lt_or_ge ps.length k with hlt | hge
    · have : k = ps.length + 1 := by omega
      subst this
      rw [List.take_of_length_le (by simp), behind_snoc, step_length]
      exact h1
    · rw [List.take_append_of_le_length hge]
      exact h k hge
theorem fits_nil {b : List UInt8} : fits b [] ↔ b.length ≤ 1048576 := by
  constructor
  · intro h; exact fits_zero h
  · intro h k hk; simpa [behind] using h
theorem may_take {b : List UInt8} {ps : List Wr} (h : may b ps) (k : Nat) : may b (ps.take k) := ⟨by have := h.1; rw [List.length_take]; omega, fits_take h.2 k⟩
theorem may_snoc {b : List UInt8} {ps : List Wr} {p : Wr} : may b (ps ++ [p]) ↔ ps.length < 1024 ∧ fits b ps ∧ more (behind b ps).length p ≤ 1048576 := by
  unfold may; rw [fits_snoc]; simp; omega
theorem may_nil {b : List UInt8} : may b [] ↔ b.length ≤ 1048576 := by unfold may; rw [fits_nil]; simp

/-- the writes that a crash leaves -/
def left (ps : List Wr) (keep most : Nat) : List Wr :=
  match ps[keep]? with
  | some p => if p.1 then ps.take keep else ps.take keep ++ [(false, p.2.take most)]
  | none => ps.take keep
theorem left_swap {ps : List Wr} {keep most : Nat} (h : keep < ps.length) (hs : ps[keep].1 = true) : left ps keep most = ps.take keep := by
  simp [left, h, hs]
theorem left_torn {ps : List Wr} {keep most : Nat} (h : keep < ps.length) (hs : ps[keep].1 = false) : left ps keep most = ps.take keep ++ [(false, ps[keep].2.take most)] := by
  simp [left, h, hs]
theorem left_end {ps : List Wr} {keep most : Nat} (h : ps.length ≤ keep) : left ps keep most = ps.take keep := by
  simp [left, h]
theorem fits_left {b : List UInt8} {ps : List Wr} (h : fits b ps) (keep most : Nat) : fits b (left ps keep most) := by
  rcases Nat.lt_or_ge keep ps.length with hlt | hge
  · cases hs : ps[keep].1
    · rw [left_torn hlt hs, fits_snoc]
      refine ⟨fits_take h keep, ?_⟩
      have h1 := h (keep + 1) (by omega)
      rw [behind_take _ _ _ hlt, step_length] at h1
      unfold more at h1 ⊢
      rw [hs] at h1
      simp at h1 ⊢
      omega
    · rw [left_swap hlt hs]; exact fits_take h keep
  · rw [left_end hge]; exact fits_take h keep
/-- what a crash leaves -/
def crash (b : List UInt8) (ps : List Wr) (keep most : Nat) : List UInt8 := behind b (left ps keep most)
theorem crash_nil (b : List UInt8) (most : Nat) : crash b [] 0 most = b := rfl

/-- appends alone: all that is there begins with what was there -/
def quiet (ps : List Wr) : Prop := ∀ p ∈ ps, p.1 = false
theorem behind_quiet (b : List UInt8) : ∀ (ps : List Wr), quiet ps → behind b ps = b ++ (ps.map (·.2)).flatten
  | [], _ => by simp [behind]
  | p :: ps, h => by
    have hp : p.1 = false := h p (by simp)
    have := behind_quiet (step b p) ps (fun q hq => h q (by simp [hq]))
    show behind (step b p) ps = _
    rw [this]
    simp [step, hp]
theorem quiet_take {ps : List Wr} (h : quiet ps) (k : Nat) : quiet (ps.take k) := fun p hp => h p (List.mem_of_mem_take hp)
/-- of appends that wait a beginning is left -/
theorem crash_quiet (b : List UInt8) (ps : List Wr) (h : quiet ps) (keep most : Nat) : ∃ n, b.length ≤ n ∧ n ≤ (behind b ps).length ∧ crash b ps keep most = (behind b ps).take n := by
  have key : ∀ x, ∃ n, b.length ≤ n ∧ n ≤ (behind b ps).length ∧ (x ≤ (ps.map (·.2)).flatten.length → b ++ (ps.map (·.2)).flatten.take x = (behind b ps).take n) := by
    intro x
    rw [behind_quiet b ps h]
    refine ⟨b.length + min x (ps.map (·.2)).flatten.length, by omega, by rw [List.length_append]; omega, fun hx => ?_⟩
    rw [List.take_length_add_append, Nat.min_eq_left hx]
  have hpre : ∃ x, x ≤ (ps.map (·.2)).flatten.length ∧ crash b ps keep most = b ++ (ps.map (·.2)).flatten.take x := by
    have hsplit : (ps.map (·.2)).flatten = ((ps.take keep).map (·.2)).flatten ++ ((ps.drop keep).map (·.2)).flatten := by
      rw [← List.flatten_append, ← List.map_append, List.take_append_drop]
    rcases Nat.lt_or_ge keep ps.length with hlt | hge
    · have hs : ps[keep].1 = false := h _ (List.getElem_mem hlt)
      refine ⟨((ps.take keep).map (·.2)).flatten.length + (ps[keep].2.take most).length, ?_, ?_⟩
      · rw [hsplit, List.length_append, List.drop_eq_getElem_cons hlt, List.map_cons, List.flatten_cons, List.length_append, List.length_take]
        omega
      · unfold crash
        rw [left_torn hlt hs, behind_snoc, behind_quiet b _ (quiet_take h keep), hsplit, List.take_length_add_append]
        unfold step
        simp only [Bool.false_eq_true, if_false, List.append_assoc]
        congr 2
        rw [List.drop_eq_getElem_cons hlt, List.map_cons, List.flatten_cons, List.take_append_of_le_length (by simp; omega)]
        simp
    · refine ⟨((ps.take keep).map (·.2)).flatten.length, by rw [hsplit, List.length_append]; omega, ?_⟩
      unfold crash
      rw [left_end hge, behind_quiet b _ (quiet_take h keep), hsplit, List.take_left' rfl]
  obtain ⟨x, hx, e⟩ := hpre
  obtain ⟨n, h1, h2, h3⟩ := key x
  exact ⟨n, h1, h2, e.trans (h3 hx)⟩
theorem take_len {l : List UInt8} {r : List UInt8} {n : Nat} (h : r = l.take n) (hn : n ≤ l.length) : r.length = n := by rw [h, List.length_take]; omega
/-- what is there of all: bytes and writes together -/
def total (b : List UInt8) (ps : List Wr) : Nat := b.length + (ps.map (·.2.length)).sum
theorem total_nil (b : List UInt8) : total b [] = b.length := by simp [total]
theorem total_snoc (b : List UInt8) (ps : List Wr) (p : Wr) : total b (ps ++ [p]) = total b ps + p.2.length := by simp [total]; omega
theorem total_take (b : List UInt8) (ps : List Wr) (k : Nat) : total b (ps.take k) ≤ total b ps := by
  have h := List.take_append_drop k ps
  have : total b ps = total b (ps.take k) + ((ps.drop k).map (·.2.length)).sum := by
    conv => lhs; rw [← h]
    simp only [total, List.map_append, List.sum_append]; omega
  omega
theorem total_at (b : List UInt8) (ps : List Wr) (k : Nat) (h : k < ps.length) : total b (ps.take k) + ps[k].2.length ≤ total b ps := by
  rw [← total_snoc, ← List.take_succ_eq_append_getElem h]; exact total_take b ps (k + 1)
theorem behind_total (b : List UInt8) (ps : List Wr) : (behind b ps).length ≤ total b ps := by
  have key : ∀ (l : List Wr), (behind b l.reverse).length ≤ total b l.reverse := by
    intro l
    induction l with
    | nil => simp [behind, total]
    | cons p l ih =>
      rw [List.reverse_cons, behind_snoc, total_snoc, step_length]
      unfold more
      split <;> omega
  have := key ps.reverse
  simpa using this
end Go.Proofs.Ytkdnkaiknmcfmaa.DM
