/-
  A group's clock: the parts in which its check asks; where something waits among what rises by ids; how many are left of what rises, each one once. No program.
  The library's own contracts of slices.Sort and slices.Compact of ints, laid at this program by numbers; no walk.
-/
import Derived.Test.YteebeiaokfenmaaGreatK01
import Derived.Lib.SlicesCompact
import Derived.Test.YteebeiaokfenmaaGreatProg
import Derived.Shelf.Sort.Plain
import Derived.Shelf.Slices.CompactI
namespace Go.Proofs.YteebeiaokfenmaaGreat.KM
open CM (Mg Cm)
open TM (Sp less ok Up rises)
set_option linter.unusedVariables false
set_option linter.unusedSimpArgs false

def areWt (s : Sk) : Prop := s.ws.length ≤ 200 ∧ (∀ w ∈ s.ws, CM.mgOk w.m ∧ 1 ≤ w.t ∧ w.t ≤ s.c) ∧ s.ws.Pairwise fun a b => a.m.id < b.m.id
def areDn (s : Sk) : Prop := s.ds.length ≤ 200 ∧ (∀ x ∈ s.ds, ok x ∧ 1 ≤ x.t ∧ x.t ≤ s.c) ∧ rises s.ds = true
def ids (s : Sk) : List Int := (s.ws.map fun w => w.m.id) ++ s.ds.map Sp.i
def behind (s : Sk) : Prop := ∀ z w, s.ds.getLast? = some z → s.ws[lst s.ws]? = some w → less z (stp w) = true
def due (s : Sk) : Prop := ∃ w, s.ws[lst s.ws]? = some w ∧ w.f = true
instance (s : Sk) : Decidable (areWt s) := by unfold areWt; infer_instance
instance (s : Sk) : Decidable (areDn s) := by unfold areDn; infer_instance
theorem less_next {a b c : Sp} (h1 : less a b = true) (h2 : less c b = false) : less a c = true := by
  simp only [less, decide_eq_false_iff_not, decide_eq_true_eq] at *
  unfold TM.lt at *
  omega
theorem may_iff {s : Sk} : may s ↔ (0 ≤ s.c ∧ s.c ≤ 1073741824) ∧ areWt s ∧ areDn s ∧ (ids s).Nodup ∧ behind s ∧ ¬ due s := by
  have hdue : HeadOk s.ws ↔ ¬ due s := by
    rw [headOk_iff]
    unfold due
    constructor
    · rintro h ⟨w, h1, h2⟩
      rw [h w h1] at h2; cases h2
    · intro h w h1
      rcases hf : w.f with _ | _
      · rfl
      · exact absurd ⟨w, h1, hf⟩ h
  have hpn : ∀ l : List Wt, (l.Pairwise fun a b => a.m.id < b.m.id) → (l.map fun w => w.m.id).Nodup := fun l h => by
    rw [List.Nodup, List.pairwise_map]
    exact h.imp fun h => by omega
  unfold may SizeOk DoneOk WaitOk areWt areDn ids
  rw [hdue, List.nodup_append]
  constructor
  · rintro ⟨⟨h1, h2, h3, h4⟩, ⟨h5, h6, h7⟩, ⟨h8, h9⟩, h10⟩
    refine ⟨⟨h1, h2⟩, ⟨h3, fun w hw => ⟨(h8 w hw).1, (h8 w hw).2.1⟩, h9⟩, ⟨h4, h5, h6⟩, ⟨hpn _ h9, h7, fun a ha b hb => ?_⟩, fun z w hz hw => ?_, h10⟩
    · obtain ⟨w, hw, rfl⟩ := List.mem_map.1 ha
      obtain ⟨x, hx, rfl⟩ := List.mem_map.1 hb
      exact fun e => doneF_no.1 (h8 w hw).2.2.1 x hx e.symm
    · exact last_all.1 (h8 w (List.mem_of_getElem? hw)).2.2.2 z hz
  · rintro ⟨⟨h1, h2⟩, ⟨h3, h8, h9⟩, ⟨h4, h5, h6⟩, ⟨_, h7, h11⟩, hb, h10⟩
    refine ⟨⟨h1, h2, h3, h4⟩, ⟨h5, h6, h7⟩, ⟨fun w hw => ⟨(h8 w hw).1, (h8 w hw).2, ?_, ?_⟩, h9⟩, h10⟩
    · exact doneF_no.2 fun x hx e => h11 _ (List.mem_map.2 ⟨w, hw, rfl⟩) _ (List.mem_map.2 ⟨x, hx, rfl⟩) e.symm
    · refine last_all.2 fun z hz => ?_
      obtain ⟨k, hk, rfl⟩ := List.getElem_of_mem hw
      obtain ⟨a, ha, g1, _⟩ := lst_least s.ws (by intro e; rw [e] at hk; simp at hk)
      exact less_next (hb z a hz ha) (g1 k _ (List.getElem?_eq_getElem hk))

-- where an id waits, or would
def wpos (l : List Wt) (id : Int) : Nat := l.findIdx fun w => decide (id ≤ w.m.id)
def whit (l : List Wt) (id : Int) : Bool := match l[wpos l id]? with | some y => decide (y.m.id = id) | none => false
theorem wpos_le (l : List Wt) (id : Int) : wpos l id ≤ l.length := List.findIdx_le_length
theorem wpos_of {l : List Wt} {id : Int} {k : Nat} (hk : k ≤ l.length) (h1 : ∀ t a, t < k → l[t]? = some a → a.m.id < id) (h2 : ∀ a, l[k]? = some a → id ≤ a.m.id) : wpos l id = k := by
  unfold wpos
  rcases Nat.lt_or_ge k l.length with h | h
  · rw [List.findIdx_eq h]
    refine ⟨by simpa using h2 _ (List.getElem?_eq_getElem h), fun j hj => ?_⟩
    have := h1 j _ hj (List.getElem?_eq_getElem (by omega))
    simp
    omega
  · have e : k = l.length := by omega
    rw [e, List.findIdx_eq_length]
    intro x hx
    obtain ⟨j, hj, rfl⟩ := List.getElem_of_mem hx
    have := h1 j _ (by omega) (List.getElem?_eq_getElem hj)
    simp
    omega
theorem wpos_lo {l : List Wt} {id : Int} {t : Nat} {a : Wt} (ht : t < wpos l id) (ha : l[t]? = some a) : a.m.id < id := by
  obtain ⟨hl, rfl⟩ := List.getElem?_eq_some_iff.1 ha
  have := List.not_of_lt_findIdx ht
  simpa using this
theorem wpos_hi {l : List Wt} {id : Int} {a : Wt} (ha : l[wpos l id]? = some a) : id ≤ a.m.id := by
  obtain ⟨hl, rfl⟩ := List.getElem?_eq_some_iff.1 ha
  exact of_decide_eq_true (List.findIdx_getElem (xs := l) (p := fun w : Wt => decide (id ≤ w.m.id)) (w := hl))
theorem whit_lt {l : List Wt} {id : Int} (h : whit l id = true) : wpos l id < l.length := by
  rcases Nat.lt_or_ge (wpos l id) l.length with h' | h'
  · exact h'
  · unfold whit at h
    rw [List.getElem?_eq_none h'] at h
    cases h
theorem whit_some {l : List Wt} {id : Int} (h : whit l id = true) : ∃ w, l[wpos l id]? = some w ∧ w.m.id = id := by
  have hl := whit_lt h
  refine ⟨_, List.getElem?_eq_getElem hl, ?_⟩
  unfold whit at h
  rw [List.getElem?_eq_getElem hl] at h
  simpa using h
theorem rise_get {l : List Wt} (hp : l.Pairwise fun a b => a.m.id < b.m.id) {i j : Nat} {a b : Wt} (hij : i < j) (ha : l[i]? = some a) (hb : l[j]? = some b) : a.m.id < b.m.id := by
  obtain ⟨h1, rfl⟩ := List.getElem?_eq_some_iff.1 ha
  obtain ⟨h2, rfl⟩ := List.getElem?_eq_some_iff.1 hb
  exact List.pairwise_iff_getElem.1 hp i j h1 h2 hij
theorem whit_wat {l : List Wt} {id : Int} (hp : l.Pairwise fun a b => a.m.id < b.m.id) (h : whit l id = true) : wat l id = wpos l id := by
  obtain ⟨w, h1, h2⟩ := whit_some h
  refine wat_eq h1 h2 fun j x hj hx => ?_
  have := rise_get hp hj hx h1
  omega
theorem whit_no {l : List Wt} {id : Int} (hp : l.Pairwise fun a b => a.m.id < b.m.id) (h : whit l id = false) : wat l id = l.length := by
  rw [wat_no]
  intro w hw e
  obtain ⟨j, hj, rfl⟩ := List.getElem_of_mem hw
  have hj2 : l[j]? = some l[j] := List.getElem?_eq_getElem hj
  have hk : wpos l id = j := wpos_of (by omega) (fun t a ht ha => by have := rise_get hp ht ha hj2; omega) (fun a ha => by rw [hj2] at ha; injection ha with ha; rw [← ha]; omega)
  unfold whit at h
  rw [hk, hj2] at h
  simp at h
  exact h e
theorem whit_iff {l : List Wt} {id : Int} (hp : l.Pairwise fun a b => a.m.id < b.m.id) : whit l id = true ↔ wat l id ≠ l.length := by
  constructor
  · intro h
    rw [whit_wat hp h]
    have := whit_lt h
    omega
  · intro h
    rcases hh : whit l id with _ | _
    · exact absurd (whit_no hp hh) h
    · rfl
theorem wpos_ins {l : List Wt} {w : Wt} (hp : l.Pairwise fun a b => a.m.id < b.m.id) (h : whit l w.m.id = false) : l.take (wpos l w.m.id) ++ [w] ++ l.drop (wpos l w.m.id) = ins l w := by
  have h1 : ∀ a ∈ l.take (wpos l w.m.id), a.m.id < w.m.id := fun a ha => by
    obtain ⟨j, hj, rfl⟩ := List.getElem_of_mem ha
    rw [List.length_take] at hj
    refine wpos_lo (l := l) (t := j) (by omega) ?_
    rw [List.getElem_take]
    exact List.getElem?_eq_getElem _
  have h2 : ∀ a ∈ l.drop (wpos l w.m.id), w.m.id < a.m.id := fun a ha => by
    obtain ⟨j, hj, rfl⟩ := List.getElem_of_mem ha
    rw [List.length_drop] at hj
    rw [List.getElem_drop]
    have hk : wpos l w.m.id < l.length := by omega
    have h3 := wpos_hi (l := l) (id := w.m.id) (List.getElem?_eq_getElem hk)
    have h4 : l[wpos l w.m.id].m.id ≠ w.m.id := fun e => by
      unfold whit at h
      rw [List.getElem?_eq_getElem hk] at h
      simp at h
      exact h e
    rcases Nat.eq_zero_or_pos j with rfl | hj0
    · simp only [Nat.add_zero]
      omega
    · have := rise_get hp (i := wpos l w.m.id) (j := wpos l w.m.id + j) (by omega) (List.getElem?_eq_getElem hk) (List.getElem?_eq_getElem (by omega))
      omega
  unfold ins
  congr 1
  · congr 1
    conv => rhs; rw [← List.take_append_drop (wpos l w.m.id) l]
    rw [List.filter_append, List.filter_eq_self.2 (fun a ha => by simpa using h1 a ha), List.filter_eq_nil_iff.2 (fun a ha => by have := h2 a ha; simp; omega), List.append_nil]
  · conv => rhs; rw [← List.take_append_drop (wpos l w.m.id) l]
    rw [List.filter_append, List.filter_eq_nil_iff.2 (fun a ha => by have := h1 a ha; simp; omega), List.filter_eq_self.2 (fun a ha => by simpa using h2 a ha), List.nil_append]

-- each one once
theorem keeps_get {zs : List Int} {j : Nat} (h0 : 0 < j) (hj : j < zs.length) : Lib.keeps zs.toArray j = false ↔ zs[j] = zs[j - 1] := by
  unfold Lib.keeps
  rw [getElem!_pos zs.toArray j (by simpa using hj), getElem!_pos zs.toArray (j - 1) (by simp; omega)]
  simp
  omega
theorem compact_lt {zs : List Int} (hs : zs.Pairwise (· ≤ ·)) : (Lib.compact zs).length < zs.length ↔ ¬ zs.Nodup := by
  constructor
  · intro h hn
    rw [Lib.compact_all zs] at h
    · omega
    · intro j hj
      rcases Nat.eq_zero_or_pos j with rfl | h0
      · exact Lib.keeps_lt_one _ 0 (by omega)
      · rcases hk : Lib.keeps zs.toArray j with _ | _
        · have := (keeps_get h0 hj).1 hk
          exact absurd this.symm (List.pairwise_iff_getElem.1 hn (j - 1) j (by omega) hj (by omega))
        · rfl
  · intro hn
    have hex : ∃ j, 0 < j ∧ ∃ h : j < zs.length, zs[j] = zs[j - 1] := by
      refine Classical.byContradiction fun hne => hn ?_
      rw [List.Nodup, List.pairwise_iff_getElem]
      intro i j hi hj hij e
      have h1 := List.pairwise_iff_getElem.1 hs i (i + 1) hi (by omega) (by omega)
      refine hne ⟨i + 1, by omega, by omega, ?_⟩
      simp only [Nat.add_sub_cancel]
      rcases Nat.lt_or_ge (i + 1) j with h2 | h2
      · have h3 := List.pairwise_iff_getElem.1 hs (i + 1) j (by omega) hj h2
        omega
      · have h4 : j = i + 1 := by omega
        subst h4
        exact e.symm
    obtain ⟨j, h0, hj, e⟩ := hex
    have hk := (keeps_get h0 hj).2 e
    unfold Lib.compact Lib.compactUpTo
    rw [List.length_map]
    have h1 : ((List.range zs.length).filter (Lib.keeps zs.toArray)).length + ((List.range zs.length).filter fun i => !Lib.keeps zs.toArray i).length = zs.length := by
      have := List.length_eq_countP_add_countP (Lib.keeps zs.toArray) (l := List.range zs.length)
      rw [List.length_range, List.countP_eq_length_filter, List.countP_eq_length_filter] at this
      simpa using this.symm
    have h2 : 0 < ((List.range zs.length).filter fun i => !Lib.keeps zs.toArray i).length :=
      List.length_pos_of_mem (List.mem_filter.2 ⟨List.mem_range.2 hj, by rw [hk]; rfl⟩)
    omega
theorem sorted_pair (zs : List Int) : (zs.mergeSort fun x y => decide (x ≤ y)).Pairwise (· ≤ ·) := by
  have := List.pairwise_mergeSort (le := fun x y : Int => decide (x ≤ y)) (fun a b c h1 h2 => by simp at *; omega) (fun a b => by simp; omega) zs
  exact this.imp fun h => by simpa using h
theorem twice_iff (zs : List Int) : (Lib.compact (zs.mergeSort fun x y => decide (x ≤ y))).length < zs.length ↔ ¬ zs.Nodup := by
  rw [← (List.mergeSort_perm zs fun x y => decide (x ≤ y)).nodup_iff, ← compact_lt (sorted_pair zs), List.length_mergeSort]
end Go.Proofs.YteebeiaokfenmaaGreat.KM

namespace Go.Proofs.YteebeiaokfenmaaGreat.KP
open Go.Shelf
set_option linter.unusedVariables false
set_option linter.unusedSimpArgs false

def laySort_ren : Go.Shelf.Ren := ⟨fun | 189 => 149 | 125 => 164 | 257 => 163 | 128 => 179 | 129 => 180 | 294 => 170 | 295 => 171 | 296 => 172 | 297 => 173 | 298 => 174 | 299 => 175 | 216 => 176 | 300 => 177 | 301 => 178 | 328 => 182 | 329 => 183 | 330 => 184 | 331 => 185 | 332 => 186 | 215 => 99 | 343 => 187 | n => n, fun | 28 => 31 | 3 => 3 | 46 => 176 | 0 => 0 | 51 => 237 | 53 => 239 | 4 => 4 | 183 => 231 | 182 => 230 | 131 => 84 | 5 => 5 | 9 => 9 | 218 => 241 | 222 => 245 | 228 => 247 | 229 => 226 | n => n, fun | n => n⟩
theorem laySort : Go.Proofs.Lays.n189 Tryz.prog laySort_ren := {
  mixed := by kernel_rfl
  f125 := Tryz.func164.trans (congrArg some (by kernel_rfl))
  f128 := Tryz.func179.trans (congrArg some (by kernel_rfl))
  f129 := Tryz.func180.trans (congrArg some (by kernel_rfl))
  f189 := Tryz.func149.trans (congrArg some (by kernel_rfl))
  f215 := Tryz.func99.trans (congrArg some (by kernel_rfl))
  f216 := Tryz.func176.trans (congrArg some (by kernel_rfl))
  f257 := Tryz.func163.trans (congrArg some (by kernel_rfl))
  f294 := Tryz.func170.trans (congrArg some (by kernel_rfl))
  f295 := Tryz.func171.trans (congrArg some (by kernel_rfl))
  f296 := Tryz.func172.trans (congrArg some (by kernel_rfl))
  f297 := Tryz.func173.trans (congrArg some (by kernel_rfl))
  f298 := Tryz.func174.trans (congrArg some (by kernel_rfl))
  f299 := Tryz.func175.trans (congrArg some (by kernel_rfl))
  f300 := Tryz.func177.trans (congrArg some (by kernel_rfl))
  f301 := Tryz.func178.trans (congrArg some (by kernel_rfl))
  f328 := Tryz.func182.trans (congrArg some (by kernel_rfl))
  f329 := Tryz.func183.trans (congrArg some (by kernel_rfl))
  f330 := Tryz.func184.trans (congrArg some (by kernel_rfl))
  f331 := Tryz.func185.trans (congrArg some (by kernel_rfl))
  f332 := Tryz.func186.trans (congrArg some (by kernel_rfl))
  f343 := Tryz.func187.trans (congrArg some (by kernel_rfl))
  t0 := Tryz.underlying0
  a0 := Tryz.isAgg0
  z0 := Tryz.sizeOf0
  v0 := Tryz.zeroValue0
  t3 := Tryz.underlying3
  a3 := Tryz.isAgg3
  z3 := Tryz.sizeOf3
  v3 := Tryz.zeroValue3
  t4 := Tryz.underlying4
  a4 := Tryz.isAgg4
  z4 := Tryz.sizeOf4
  v4 := Tryz.zeroValue4
  t5 := Tryz.underlying5
  a5 := Tryz.isAgg5
  z5 := Tryz.sizeOf5
  v5 := Tryz.zeroValue5
  t9 := Tryz.underlying9
  a9 := Tryz.isAgg9
  z9 := Tryz.sizeOf9
  v9 := Tryz.zeroValue9
  t28 := Tryz.underlying31
  a28 := Tryz.isAgg31
  z28 := Tryz.sizeOf31
  v28 := Tryz.zeroValue31
  t46 := Tryz.underlying176
  a46 := Tryz.isAgg176
  z46 := Tryz.sizeOf176
  v46 := Tryz.zeroValue176
  t51 := Tryz.underlying237
  a51 := Tryz.isAgg237
  z51 := Tryz.sizeOf237
  v51 := Tryz.zeroValue237
  t53 := Tryz.underlying239
  a53 := Tryz.isAgg239
  z53 := Tryz.sizeOf239
  v53 := Tryz.zeroValue239
  t131 := Tryz.underlying84
  a131 := Tryz.isAgg84
  z131 := Tryz.sizeOf84
  v131 := Tryz.zeroValue84
  t182 := Tryz.underlying230
  a182 := Tryz.isAgg230
  z182 := Tryz.sizeOf230
  v182 := Tryz.zeroValue230
  t183 := Tryz.underlying231
  a183 := Tryz.isAgg231
  z183 := Tryz.sizeOf231
  v183 := Tryz.zeroValue231
  t218 := Tryz.underlying241
  a218 := Tryz.isAgg241
  z218 := Tryz.sizeOf241
  v218 := Tryz.zeroValue241
  t222 := Tryz.underlying245
  a222 := Tryz.isAgg245
  z222 := Tryz.sizeOf245
  v222 := Tryz.zeroValue245
  t228 := Tryz.underlying247
  a228 := Tryz.isAgg247
  z228 := Tryz.sizeOf247
  v228 := Tryz.zeroValue247
  t229 := Tryz.underlying226
  a229 := Tryz.isAgg226
  z229 := Tryz.sizeOf226
  v229 := Tryz.zeroValue226 }
def layCompact_ren : Go.Shelf.Ren := ⟨fun | 20 => 150 | n => n, fun | 22 => 31 | 3 => 3 | 4 => 4 | 0 => 0 | n => n, fun | n => n⟩
theorem layCompact : Go.Proofs.Lays2.n20 Tryz.prog layCompact_ren := {
  mixed := by kernel_rfl
  f20 := Tryz.func150.trans (congrArg some (by kernel_rfl))
  t0 := Tryz.underlying0
  a0 := Tryz.isAgg0
  z0 := Tryz.sizeOf0
  v0 := Tryz.zeroValue0
  t3 := Tryz.underlying3
  a3 := Tryz.isAgg3
  z3 := Tryz.sizeOf3
  v3 := Tryz.zeroValue3
  t4 := Tryz.underlying4
  a4 := Tryz.isAgg4
  z4 := Tryz.sizeOf4
  v4 := Tryz.zeroValue4
  t22 := Tryz.underlying31
  a22 := Tryz.isAgg31
  z22 := Tryz.sizeOf31
  v22 := Tryz.zeroValue31
  i3 := by kernel_rfl }
end Go.Proofs.YteebeiaokfenmaaGreat.KP
