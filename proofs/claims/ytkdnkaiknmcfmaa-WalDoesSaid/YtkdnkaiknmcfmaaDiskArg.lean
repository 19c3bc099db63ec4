/-
  Arguments that are disks, and slices of slices of bytes, opened to cells. Conditions: as each theorem says.
-/
import Derived.Test.YtkdnkaiknmcfmaaDiskV
import Derived.Test.YtkdnkaiknmcfmaaRows
import Derived.Lib.SmallJoins
import Derived.Deep.SlicePairs
import Derived.SizedLaws
import Derived.OpenShut
namespace Go.Proofs.Ytkdnkaiknmcfmaa
open Go.RowKit Go.Joins Go.ChangeShapes Go.WideShapes Go.Deep
set_option linter.unusedVariables false

/-- an argument that is a disk: it reads as b and ps, and its data are no more than a machine holds -/
def DiskArg (w : World) (v : Value) (b : List UInt8) (ps : List DM.Wr) : Prop := DiskIs w v b ps ∧ b.length ≤ 140737488351232 ∧ ∀ (i : Nat) (q : DM.Wr), ps[i]? = some q → q.2.length ≤ 140737488351232
/-- an argument that is a slice of slices of bytes -/
def RowsArg (w : World) (A : Option Addr) (len cap : Nat) (ls : List (List UInt8)) : Prop :=
  len ≤ cap ∧ cap ≤ maxLen ∧ ls.length = len ∧ ∃ vs : List Value, Rd w A len vs ∧ ∀ (i : Nat) (v : Value) (l : List UInt8), vs[i]? = some v → ls[i]? = some l → ByIs w v l

section
variable {H : Type} {enc : TypeId × Value → H} {w : World} {spare : Nat → Bool} {held : Bool}
theorem open_by {base fuel : Nat} {v : Value} {x : DataW H × List MemPlace} (h : DataW.trod enc Try.prog w base spare held fuel 22 [v] = some x) :
    ∃ b, ByIs w v b ∧ (b.length = 0 ∨ b.length ∈ x.1.weights Try.prog 22 ∨ ∃ k, b.length ≤ k ∧ k ∈ x.1.weights Try.prog 22) := by
  rcases open_ints Try.underlying22 Try.underlying5 (by kernel_rfl) h with ⟨hcs, _⟩ | ⟨a, len, cap, zs, hcs, hbl, hl, hm, hz, hx, hcell, hwz⟩
  · simp at hcs
    subst hcs
    exact ⟨[], ByIs.nil, .inl rfl⟩
  · simp at hcs
    subst hcs
    have hlz : len ≤ zs.length := by rw [hz]; split <;> omega
    have hrd : Rd w (some a) len (bc ((zs.take len).map byteOf)) := by
      refine ⟨by rw [bc_length, List.length_map, List.length_take]; omega, fun hn => ⟨a, rfl, ?_, fun j u hu => ?_⟩⟩
      · have := cell_block (hcell 0 (by omega)); rwa [block_of_add] at this
      · unfold bc at hu
        rw [List.map_map, List.getElem?_map, List.getElem?_take] at hu
        split at hu
        · rename_i hj
          have hjz : j < zs.length := by omega
          rw [hcell j hjz]
          rw [List.getElem?_eq_getElem hjz] at hu
          simp only [Option.map_some, Option.some.injEq, Function.comp, byteOf_toNat (hwz zs[j] (List.getElem_mem hjz))] at hu
          rw [← hu]
          simp [hjz]
        · simp at hu
    have hlen : ((zs.take len).map byteOf).length = len := by rw [List.length_map, List.length_take]; omega
    refine ⟨(zs.take len).map byteOf, ⟨some a, cap, by rw [hlen], by rw [hlen]; exact hl, hm, by rw [hlen]; exact hrd⟩, .inr (.inr ⟨zs.length * Try.prog.bytesOf 5, ?_, ?_⟩)⟩
    · rw [hlen, show Try.prog.bytesOf 5 = 1 from by kernel_rfl]; omega
    · rw [hx]
      simp only [DataW.weights, Try.underlying22, List.mem_cons]
      left
      simp only [lits, List.length_map, List.length_take, List.length_drop]
      congr 1
      omega

theorem weights_all {P : Program} {e : TypeId} {d : DataW H} {z : Nat} : ∀ {ds : List (DataW H)}, d ∈ ds → z ∈ d.weights P e → z ∈ DataW.weightsAll P e ds
  | [], h, _ => by simp at h
  | x :: r, h, hz => by
    simp only [DataW.weightsAll, List.mem_append]
    rcases List.mem_cons.1 h with rfl | h
    · exact .inl hz
    · exact .inr (weights_all h hz)
theorem open_disk {r : Reach} {b0 base : Nat} {v : Value} {d : DataW H} {p : List MemPlace} (hv : Value.okWide Try.prog w r b0 25 v) (h : DataW.Trod enc Try.prog w base spare held 25 v d p)
    (hwt : ∀ k ∈ d.weights Try.prog 25, k ≤ reachBytes) : ∃ b ps, DiskArg w v b ps := by
  obtain ⟨v0, v1, y0, y1, n, rfl, rfl, rfl, t0, t1⟩ := open_agg2 Try.underlying25 (by kernel_rfl) (by kernel_rfl) hv h
  obtain ⟨b, ⟨A, c, rfl, hc1, hc2, hrd⟩, hw⟩ := open_by t0
  have hb : b.length ≤ 140737488351232 := by
    have key : ∀ k, k ∈ y0.1.weights Try.prog 22 → k ≤ 140737488351232 := fun k hk => hwt k (by
      simp only [DataW.weights, Try.underlying25, List.map_cons, List.map_nil, DataW.weightsEach, List.mem_append]
      exact .inl hk)
    rcases hw with h0 | h0 | ⟨k, hk, h0⟩
    · omega
    · exact key _ h0
    · exact Nat.le_trans hk (key _ h0)
  rcases open_slice_pairs Try.underlying23 Try.underlying37 (by kernel_rfl) rfl rfl (by kernel_rfl) (by kernel_rfl) t1 with ⟨hcs, _⟩ | ⟨a, len, cap, m, k, V0, V1, D0, D1, P0, P1, hcs, hbl, hl, hm, hmm, hx1, hi⟩
  · simp at hcs
    subst hcs
    exact ⟨b, [], ⟨A, b.length, c, none, 0, 0, rfl, hc1, hc2, Nat.le_refl _, Nat.zero_le _, hrd, WaitIs.nil⟩, hb, fun i q hq => by simp at hq⟩
  · simp at hcs
    subst hcs
    have hlm : len ≤ m := by rw [hmm]; split <;> omega
    have hy1 : y1.1 = .slice ((List.range len).map fun i => .agg [D0 i, D1 i]) ((List.range (m - len)).map fun j => .agg [D0 (len + j), D1 (len + j)]) := by rw [hx1]
    obtain ⟨f, hf⟩ := choose_lt (α := DM.Wr) (n := len) (p := fun i q => V0 i = .bool q.1 ∧ ByIs w (V1 i) q.2 ∧ q.2.length ≤ 140737488351232) (fun i hi' => by
      obtain ⟨_, _, g2, g3⟩ := hi i (by omega)
      obtain ⟨s, e, _⟩ := DataW.trod_bool Try.underlying4 g2
      simp at e
      obtain ⟨q, hq, hqw⟩ := open_by g3
      refine ⟨(s, q), e, hq, ?_⟩
      have key : ∀ z, z ∈ (D1 i).weights Try.prog 22 → z ≤ 140737488351232 := fun z hz => hwt z (by
        simp only [DataW.weights, Try.underlying25, List.map_cons, List.map_nil, DataW.weightsEach, List.mem_append]
        right; left
        rw [hy1]
        simp only [DataW.weights, Try.underlying23, List.mem_cons, List.mem_append]
        right; left
        refine weights_all (d := .agg [D0 i, D1 i]) (List.mem_map.2 ⟨i, List.mem_range.2 hi', rfl⟩) ?_
        simp only [DataW.weights, Try.underlying37, List.map_cons, List.map_nil, DataW.weightsEach, List.mem_append]
        right; left
        exact hz)
      rcases hqw with h0 | h0 | ⟨k', hk', h0⟩
      · show q.length ≤ _; omega
      · exact key _ h0
      · exact Nat.le_trans hk' (key _ h0))
    refine ⟨b, (List.range len).map f, ⟨A, b.length, c, some a, len, cap, rfl, hc1, hc2, hl, hm, hrd, by simp, (List.range len).map fun i => ((f i).1, V1 i), ?_, by simp, fun i x y hx hy => ?_⟩, hb, fun i q hq => ?_⟩
    · refine ⟨by rw [pc_length]; simp, fun hn => ⟨a, rfl, ?_, fun j u hu => ?_⟩⟩
      · have := cell_block (hi 0 (by omega)).1; rwa [block_of_add] at this
      · have hjl : j < len * 2 := by
          have := (List.getElem?_eq_some_iff.1 hu).1
          rw [pc_length] at this
          simpa using this
        obtain ⟨i, hi2⟩ : ∃ i, j = i * 2 ∨ j = i * 2 + 1 := ⟨j / 2, by omega⟩
        have hil : i < len := by omega
        have hgi : ((List.range len).map fun i => ((f i).1, V1 i))[i]? = some ((f i).1, V1 i) := by simp [hil]
        obtain ⟨g0, g1, _⟩ := hi i (by omega)
        rcases hi2 with rfl | rfl
        · rw [pc_even _ _ _ hgi] at hu
          rw [g0, (hf i hil).1]
          exact hu
        · rw [pc_odd _ _ _ hgi] at hu
          rw [g1]
          exact hu
    · have hil : i < len := by
        have := (List.getElem?_eq_some_iff.1 hx).1
        simpa using this
      simp [hil] at hx hy
      subst hx; subst hy
      exact ⟨rfl, (hf i hil).2.1⟩
    · have hil : i < len := by
        have := (List.getElem?_eq_some_iff.1 hq).1
        simpa using this
      simp [hil] at hq
      subst hq
      exact (hf i hil).2.2
theorem open_rows {base fuel : Nat} {A : Option Addr} {len cap : Nat} {x : DataW H × List MemPlace} (h : DataW.trod enc Try.prog w base spare held fuel 52 [.slice A len cap] = some x) : ∃ ls, RowsArg w A len cap ls := by
  rcases open_slice1 Try.underlying52 (by kernel_rfl) h with ⟨hcs, _⟩ | ⟨a, len', cap', m, k, V, D, Pl, hcs, hbl, hl, hm, hmm, _, hi⟩
  · simp at hcs
    obtain ⟨rfl, rfl, rfl⟩ := hcs
    exact ⟨[], Nat.le_refl _, Nat.zero_le _, rfl, [], Rd.nil, fun i v l hv => by simp at hv⟩
  · simp at hcs
    obtain ⟨rfl, rfl, rfl⟩ := hcs
    have hlm : len ≤ m := by rw [hmm]; split <;> omega
    obtain ⟨f, hf⟩ := choose_lt (α := List UInt8) (n := len) (p := fun i q => ByIs w (V i) q) (fun i hi' => by
      obtain ⟨_, g2⟩ := hi i (by omega)
      obtain ⟨q, hq, _⟩ := open_by g2
      exact ⟨q, hq⟩)
    refine ⟨(List.range len).map f, hl, hm, by simp, (List.range len).map V, ⟨by simp, fun hn => ⟨a, rfl, ?_, fun j u hu => ?_⟩⟩, fun i v l hv hl' => ?_⟩
    · have := cell_block (hi 0 (by omega)).1; rwa [block_of_add] at this
    · have hjl : j < len := by have := (List.getElem?_eq_some_iff.1 hu).1; simpa using this
      simp [hjl] at hu
      subst hu
      exact (hi j (by omega)).1
    · have hjl : i < len := by have := (List.getElem?_eq_some_iff.1 hv).1; simpa using this
      simp [hjl] at hv hl'
      subst hv; subst hl'
      exact hf i hjl
end
end Go.Proofs.Ytkdnkaiknmcfmaa
