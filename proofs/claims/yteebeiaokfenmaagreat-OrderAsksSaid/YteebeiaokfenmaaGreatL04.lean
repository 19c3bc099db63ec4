/- Contracts of functions, L04: each as its theorem says. -/
import Derived.Test.YteebeiaokfenmaaGreatL03
import Derived.Lib.SlicesCompact
import Derived.Lib.Walk
import Derived.Deep.QuietTactic
import Derived.BigQuiet
import Derived.Deep.RegionLaw
set_option linter.unusedVariables false
set_option linter.unusedSimpArgs false
set_option maxRecDepth 100000
set_option maxHeartbeats 16000000
namespace Go.Proofs.YteebeiaokfenmaaGreat
namespace KM
open CM (Mg Cm)
open TM (Sp less ok Up rises)
def areWt (s : Sk) : Prop := s.ws.length ≤ 200 ∧ (∀ w ∈ s.ws, CM.mgOk w.m ∧ 1 ≤ w.t ∧ w.t ≤ s.c) ∧ s.ws.Pairwise fun a b => a.m.id < b.m.id
def areDn (s : Sk) : Prop := s.ds.length ≤ 200 ∧ (∀ x ∈ s.ds, ok x ∧ 1 ≤ x.t ∧ x.t ≤ s.c) ∧ rises s.ds = true
def ids (s : Sk) : List Int := (s.ws.map fun w => w.m.id) ++ s.ds.map Sp.i
def behind (s : Sk) : Prop := ∀ z w, s.ds.getLast? = some z → s.ws[lst s.ws]? = some w → less z (stp w) = true
def due (s : Sk) : Prop := ∃ w, s.ws[lst s.ws]? = some w ∧ w.f = true
instance (s : Sk) : Decidable (areWt s) := by unfold areWt; infer_instance
instance (s : Sk) : Decidable (areDn s) := by unfold areDn; infer_instance
theorem less_next {a b c : Sp} (h1 : less a b = true) (h2 : less c b = false) : less a c = true := by
 simp only [less, decide_eq_false_iff_not, decide_eq_true_eq] at *
 unfold TM.lt at *
 omega
theorem may_iff {s : Sk} : may s ↔ (0 ≤ s.c ∧ s.c ≤ 1073741824) ∧ areWt s ∧ areDn s ∧ (ids s).Nodup ∧ behind s ∧ ¬ due s := by
 have hdue : HeadOk s.ws ↔ ¬ due s := by
  rw [headOk_iff]
  unfold due
  constructor
  ·rintro h ⟨w, h1, h2⟩
   rw [h w h1] at h2; cases h2
  ·intro h w h1
   rcases hf : w.f with _ | _
   ·rfl
   ·exact absurd ⟨w, h1, hf⟩ h
 have hpn : ∀ l : List Wt, (l.Pairwise fun a b => a.m.id < b.m.id) → (l.map fun w => w.m.id).Nodup := fun l h => by
  rw [List.Nodup, List.pairwise_map]
  exact h.imp fun h => by omega
 unfold may SizeOk DoneOk WaitOk areWt areDn ids
 rw [hdue, List.nodup_append]
 constructor
 ·rintro ⟨⟨h1, h2, h3, h4⟩, ⟨h5, h6, h7⟩, ⟨h8, h9⟩, h10⟩
  refine ⟨⟨h1, h2⟩, ⟨h3, fun w hw => ⟨(h8 w hw).1, (h8 w hw).2.1⟩, h9⟩, ⟨h4, h5, h6⟩, ⟨hpn _ h9, h7, fun a ha b hb => ?_⟩, fun z w hz hw => ?_, h10⟩
  ·obtain ⟨w, hw, rfl⟩ := List.mem_map.1 ha
   obtain ⟨x, hx, rfl⟩ := List.mem_map.1 hb
   exact fun e => doneF_no.1 (h8 w hw).2.2.1 x hx e.symm
  ·exact last_all.1 (h8 w (List.mem_of_getElem? hw)).2.2.2 z hz
 ·rintro ⟨⟨h1, h2⟩, ⟨h3, h8, h9⟩, ⟨h4, h5, h6⟩, ⟨_, h7, h11⟩, hb, h10⟩
  refine ⟨⟨h1, h2, h3, h4⟩, ⟨h5, h6, h7⟩, ⟨fun w hw => ⟨(h8 w hw).1, (h8 w hw).2, ?_, ?_⟩, h9⟩, h10⟩
  ·exact doneF_no.2 fun x hx e => h11 _ (List.mem_map.2 ⟨w, hw, rfl⟩) _ (List.mem_map.2 ⟨x, hx, rfl⟩) e.symm
  ·refine last_all.2 fun z hz => ?_
   obtain ⟨k, hk, rfl⟩ := List.getElem_of_mem hw
   obtain ⟨a, ha, g1, _⟩ := lst_least s.ws (by intro e; rw [e] at hk; simp at hk)
   exact less_next (hb z a hz ha) (g1 k _ (List.getElem?_eq_getElem hk))
def wpos (l : List Wt) (id : Int) : Nat := l.findIdx fun w => decide (id ≤ w.m.id)
def whit (l : List Wt) (id : Int) : Bool := match l[wpos l id]? with | some y => decide (y.m.id = id) | none => false
theorem wpos_le (l : List Wt) (id : Int) : wpos l id ≤ l.length := List.findIdx_le_length
theorem wpos_of {l : List Wt} {id : Int} {k : Nat} (hk : k ≤ l.length) (h1 : ∀ t a, t < k → l[t]? = some a → a.m.id < id) (h2 : ∀ a, l[k]? = some a → id ≤ a.m.id) : wpos l id = k := by
 unfold wpos
 rcases Nat.lt_or_ge k l.length with h | h
 ·rw [List.findIdx_eq h]
  refine ⟨by simpa using h2 _ (List.getElem?_eq_getElem h), fun j hj => ?_⟩
  have := h1 j _ hj (List.getElem?_eq_getElem (by omega))
  simp
  omega
 ·have e : k = l.length := by omega
  rw [e, List.findIdx_eq_length]
  intro x hx
  obtain ⟨j, hj, rfl⟩ := List.getElem_of_mem hx
  have := h1 j _ (by omega) (List.getElem?_eq_getElem hj)
  simp
  omega
theorem wpos_lo {l : List Wt} {id : Int} {t : Nat} {a : Wt} (ht : t < wpos l id) (ha : l[t]? = some a) : a.m.id < id := by
 obtain ⟨hl, rfl⟩ := List.getElem?_eq_some_iff.1 ha
 have := List.not_of_lt_findIdx ht
 simpa using this
theorem wpos_hi {l : List Wt} {id : Int} {a : Wt} (ha : l[wpos l id]? = some a) : id ≤ a.m.id := by
 obtain ⟨hl, rfl⟩ := List.getElem?_eq_some_iff.1 ha
 exact of_decide_eq_true (List.findIdx_getElem (xs := l) (p := fun w : Wt => decide (id ≤ w.m.id)) (w := hl))
theorem whit_lt {l : List Wt} {id : Int} (h : whit l id = true) : wpos l id < l.length := by
 rcases Nat.lt_or_ge (wpos l id) l.length with h' | h'
 ·exact h'
 ·unfold whit at h
  rw [List.getElem?_eq_none h'] at h
  cases h
theorem whit_some {l : List Wt} {id : Int} (h : whit l id = true) : ∃ w, l[wpos l id]? = some w ∧ w.m.id = id := by
 have hl := whit_lt h
 refine ⟨_, List.getElem?_eq_getElem hl, ?_⟩
 unfold whit at h
 rw [List.getElem?_eq_getElem hl] at h
 simpa using h
theorem rise_get {l : List Wt} (hp : l.Pairwise fun a b => a.m.id < b.m.id) {i j : Nat} {a b : Wt} (hij : i < j) (ha : l[i]? = some a) (hb : l[j]? = some b) : a.m.id < b.m.id := by
 obtain ⟨h1, rfl⟩ := List.getElem?_eq_some_iff.1 ha
 obtain ⟨h2, rfl⟩ := List.getElem?_eq_some_iff.1 hb
 exact List.pairwise_iff_getElem.1 hp i j h1 h2 hij
theorem whit_wat {l : List Wt} {id : Int} (hp : l.Pairwise fun a b => a.m.id < b.m.id) (h : whit l id = true) : wat l id = wpos l id := by
 obtain ⟨w, h1, h2⟩ := whit_some h
 refine wat_eq h1 h2 fun j x hj hx => ?_
 have := rise_get hp hj hx h1
 omega
theorem whit_no {l : List Wt} {id : Int} (hp : l.Pairwise fun a b => a.m.id < b.m.id) (h : whit l id = false) : wat l id = l.length := by
 rw [wat_no]
 intro w hw e
 obtain ⟨j, hj, rfl⟩ := List.getElem_of_mem hw
 have hj2 : l[j]? = some l[j] := List.getElem?_eq_getElem hj
 have hk : wpos l id = j := wpos_of (by omega) (fun t a ht ha => by have := rise_get hp ht ha hj2; omega) (fun a ha => by rw [hj2] at ha; injection ha with ha; rw [← ha]; omega)
 unfold whit at h
 rw [hk, hj2] at h
 simp at h
 exact h e
theorem whit_iff {l : List Wt} {id : Int} (hp : l.Pairwise fun a b => a.m.id < b.m.id) : whit l id = true ↔ wat l id ≠ l.length := by
 constructor
 ·intro h
  rw [whit_wat hp h]
  have := whit_lt h
  omega
 ·intro h
  rcases hh : whit l id with _ | _
  ·exact absurd (whit_no hp hh) h
  ·rfl
theorem wpos_ins {l : List Wt} {w : Wt} (hp : l.Pairwise fun a b => a.m.id < b.m.id) (h : whit l w.m.id = false) : l.take (wpos l w.m.id) ++ [w] ++ l.drop (wpos l w.m.id) = ins l w := by
 have h1 : ∀ a ∈ l.take (wpos l w.m.id), a.m.id < w.m.id := fun a ha => by
  obtain ⟨j, hj, rfl⟩ := List.getElem_of_mem ha
  rw [List.length_take] at hj
  refine wpos_lo (l := l) (t := j) (by omega) ?_
  rw [List.getElem_take]
  exact List.getElem?_eq_getElem _
 have h2 : ∀ a ∈ l.drop (wpos l w.m.id), w.m.id < a.m.id := fun a ha => by
  obtain ⟨j, hj, rfl⟩ := List.getElem_of_mem ha
  rw [List.length_drop] at hj
  rw [List.getElem_drop]
  have hk : wpos l w.m.id < l.length := by omega
  have h3 := wpos_hi (l := l) (id := w.m.id) (List.getElem?_eq_getElem hk)
  have h4 : l[wpos l w.m.id].m.id ≠ w.m.id := fun e => by
   unfold whit at h
   rw [List.getElem?_eq_getElem hk] at h
   simp at h
   exact h e
  rcases Nat.eq_zero_or_pos j with rfl | hj0
  ·simp only [Nat.add_zero]
   omega
  ·have := rise_get hp (i := wpos l w.m.id) (j := wpos l w.m.id + j) (by omega) (List.getElem?_eq_getElem hk) (List.getElem?_eq_getElem (by omega))
   omega
 unfold ins
 congr 1
 ·congr 1
  conv => rhs; rw [← List.take_append_drop (wpos l w.m.id) l]
  rw [List.filter_append, List.filter_eq_self.2 (fun a ha => by simpa using h1 a ha), List.filter_eq_nil_iff.2 (fun a ha => by have := h2 a ha; simp; omega), List.append_nil]
 ·conv => rhs; rw [← List.take_append_drop (wpos l w.m.id) l]
  rw [List.filter_append, List.filter_eq_nil_iff.2 (fun a ha => by have := h1 a ha; simp; omega), List.filter_eq_self.2 (fun a ha => by simpa using h2 a ha), List.nil_append]
theorem keeps_get {zs : List Int} {j : Nat} (h0 : 0 < j) (hj : j < zs.length) : Lib.keeps zs.toArray j = false ↔ zs[j] = zs[j - 1] := by
 unfold Lib.keeps
 rw [getElem!_pos zs.toArray j (by simpa using hj), getElem!_pos zs.toArray (j - 1) (by simp; omega)]
 simp
 omega
theorem compact_lt {zs : List Int} (hs : zs.Pairwise (· ≤ ·)) : (Lib.compact zs).length < zs.length ↔ ¬ zs.Nodup := by
 constructor
 ·intro h hn
  rw [Lib.compact_all zs] at h
  ·omega
  ·intro j hj
   rcases Nat.eq_zero_or_pos j with rfl | h0
   ·exact Lib.keeps_lt_one _ 0 (by omega)
   ·rcases hk : Lib.keeps zs.toArray j with _ | _
    ·have := (keeps_get h0 hj).1 hk
     exact absurd this.symm (List.pairwise_iff_getElem.1 hn (j - 1) j (by omega) hj (by omega))
    ·rfl
 ·intro hn
  have hex : ∃ j, 0 < j ∧ ∃ h : j < zs.length, zs[j] = zs[j - 1] := by
   refine Classical.byContradiction fun hne => hn ?_
   rw [List.Nodup, List.pairwise_iff_getElem]
   intro i j hi hj hij e
   have h1 := List.pairwise_iff_getElem.1 hs i (i + 1) hi (by omega) (by omega)
   refine hne ⟨i + 1, by omega, by omega, ?_⟩
   simp only [Nat.add_sub_cancel]
   rcases Nat.lt_or_ge (i + 1) j with h2 | h2
   ·have h3 := List.pairwise_iff_getElem.1 hs (i + 1) j (by omega) hj h2
    omega
   ·have h4 : j = i + 1 := by omega
    subst h4
    exact e.symm
  obtain ⟨j, h0, hj, e⟩ := hex
  have hk := (keeps_get h0 hj).2 e
  unfold Lib.compact Lib.compactUpTo
  rw [List.length_map]
  have h1 : ((List.range zs.length).filter (Lib.keeps zs.toArray)).length + ((List.range zs.length).filter fun i => !Lib.keeps zs.toArray i).length = zs.length := by
   have := List.length_eq_countP_add_countP (Lib.keeps zs.toArray) (l := List.range zs.length)
   rw [List.length_range, List.countP_eq_length_filter, List.countP_eq_length_filter] at this
   simpa using this.symm
  have h2 : 0 < ((List.range zs.length).filter fun i => !Lib.keeps zs.toArray i).length :=
   List.length_pos_of_mem (List.mem_filter.2 ⟨List.mem_range.2 hj, by rw [hk]; rfl⟩)
  omega
theorem sorted_pair (zs : List Int) : (zs.mergeSort fun x y => decide (x ≤ y)).Pairwise (· ≤ ·) := by
 have := List.pairwise_mergeSort (le := fun x y : Int => decide (x ≤ y)) (fun a b c h1 h2 => by simp at *; omega) (fun a b => by simp; omega) zs
 exact this.imp fun h => by simpa using h
theorem twice_iff (zs : List Int) : (Lib.compact (zs.mergeSort fun x y => decide (x ≤ y))).length < zs.length ↔ ¬ zs.Nodup := by
 rw [← (List.mergeSort_perm zs fun x y => decide (x ≤ y)).nodup_iff, ← compact_lt (sorted_pair zs), List.length_mergeSort]
end KM
section
open Go.RowKit
def BoolQ (b : Bool) (w : World) (e : Ending) (w' : World) : Prop := e = .returned (.bool b) ∧ ∃ q, w' = w.drewN q
theorem take_snoc_eq {α : Type} {xs ys : List α} {k : Nat} {a b : α} (h : xs.take k = ys.take k) (h1 : xs[k]? = some a) (h2 : ys[k]? = some b) (e : a = b) : xs.take (k + 1) = ys.take (k + 1) := by
 have g1 := List.getElem?_eq_some_iff.1 h1
 have g2 := List.getElem?_eq_some_iff.1 h2
 obtain ⟨l1, g1⟩ := g1
 obtain ⟨l2, g2⟩ := g2
 rw [List.take_succ_eq_append_getElem l1, List.take_succ_eq_append_getElem l2, h, g1, g2, e]
theorem ne_of_at {α : Type} {xs ys : List α} {k : Nat} {a b : α} (h1 : xs[k]? = some a) (h2 : ys[k]? = some b) (e : a ≠ b) : xs ≠ ys := fun h => e (by rw [h, h2] at h1; injection h1 with h1; exact h1.symm)
theorem ic_at {zs : List Int} {k : Nat} {u : Value} (h : (ic zs)[k]? = some u) : ∃ z, zs[k]? = some z ∧ u = .int .i64 z := by
 simp only [ic, List.getElem?_map, Option.map_eq_some_iff] at h
 obtain ⟨z, h1, h2⟩ := h
 exact ⟨z, h1, h2.symm⟩
theorem equalI_any (A : Option Addr) (n c : Nat) (xs : List Int) (B : Option Addr) (m d : Nat) (ys : List Int) (w : World) (h1 : Rd w A n (ic xs)) (h2 : Rd w B m (ic ys)) (hm : n ≤ 9223372036854775807) (hm2 : m ≤ 9223372036854775807) :
  Calls Tryz.prog 89 #[.slice A n c, .slice B m d] w (BoolQ (decide (xs = ys)) w) := by
 have l1 : xs.length = n := by have := h1.1; rwa [ic_length] at this
 have l2 : ys.length = m := by have := h2.1; rwa [ic_length] at this
 obtain ⟨r, hr⟩ : ∃ r, r = decide (xs = ys) := ⟨_, rfl⟩
 rw [← hr]
 have HR := h! hr; clear hr
 by_cases hnm : n = m
 ·subst hnm
  have HL1 := h! l1
  have HL2 := h! l2
  clear l1 l2
  have hne : ((n : Int) != (n : Int)) = false := by simp
  have HS := h! (show xs.take 0 = ys.take 0 by simp)
  go_enter Tryz.func89, Tryz.ntmps89
  go_wp2
  go_loopw [13] (fun i wr => ∃ k q : Nat, k ≤ n ∧ i = .int .i64 k ∧ wr = w.drewN q ∧ Hid (xs.take k = ys.take k)) (fun i _ => n - (intOf i).toNat)
  case atStart => exact ⟨0, 0, by omega, rfl, rfl, HS⟩
  case round =>
   clear HS
   obtain ⟨k, q, hk, rfl, rfl, HT⟩ := hrel
   by_cases hlt : k < n
   ·obtain ⟨ad1, u1, rfl, _, hu1, hcell1⟩ := h1.at_ hlt
    obtain ⟨ad2, u2, rfl, _, hu2, hcell2⟩ := h2.at_ hlt
    obtain ⟨z1, e1, rfl⟩ := ic_at hu1
    obtain ⟨z2, e2, rfl⟩ := ic_at hu2
    have hk0 : (0 : Int) ≤ (k : Int) := by omega
    have hkn : (k : Int) < (n : Int) := by omega
    clear hu1 hu2
    by_cases he : z1 = z2
    ·subst he
     have HT2 := h! (take_snoc_eq HT.out e1 e2 rfl)
     clear e1 e2 HT
     have hbz : (z1 != z1) = false := by simp
     go_wp2_with fail
     go_quiet (fail)
     go_wp2_with fail
     go_roundw
     case rel => exact ⟨k + 1, q + nq, by omega, by go_num, by simp, HT2⟩
     case measure => simp [intOf]; omega
    ·have HN := h! (ne_of_at e1 e2 he)
     have hbz : (z1 != z2) = true := by simpa using he
     clear e1 e2 HT he
     go_wp2_with fail
     go_quiet (fail)
     go_wp2_with fail
     go_ret
     exact ⟨by rw [HR.out]; simp [HN.out], q + nq, by simp⟩
   ·obtain rfl : n = k := by omega
    have ht : xs = ys := by
     have := HT.out
     rwa [List.take_of_length_le (by have := HL1.out; omega), List.take_of_length_le (by have := HL2.out; omega)] at this
    have HE := h! ht; clear ht HT
    go_wp2
    go_ret
    exact ⟨by rw [HR.out]; simp [HE.out], q, rfl⟩
 ·have hne : ((n : Int) != (m : Int)) = true := by simp; omega
  have hn : ¬ xs = ys := fun e => hnm (by rw [← l1, ← l2, e])
  have hf : r = false := by rw [HR.out]; simpa using hn
  have HF := h! hf
  clear hn hf
  clear l1 l2 h1 h2
  go_enter Tryz.func89, Tryz.ntmps89
  go_wp2
  go_ret
  exact ⟨by rw [HF.out]; rfl, 0, rfl⟩
end
namespace CP
open Go.RowKit
open CM (Mg Cm)
def BoolIs (b : Bool) (w : World) (e : Ending) (w' : World) : Prop := e = .returned (.bool b) ∧ Below w.heap.size w w'
theorem bool_ret {x y : Bool} {w w' : World} (h : y = x) (hb : Below w.heap.size w w') : BoolIs x w (.returned (.bool y)) w' := ⟨by rw [h], hb⟩
def i64In (n : Int) : Prop := -9223372036854775808 ≤ n ∧ n ≤ 9223372036854775807
def mcells (A : Option Addr) (c : Nat) (m : Mg) : Array Value := #[.int .i64 m.id, .slice A m.gs.length c, .int .i64 m.tp, .string m.key, .string m.body]
def ccells (A : Option Addr) (c : Nat) (B : Option Addr) (d : Nat) (x : Cm) : Array Value :=
 #[.int .u8 x.k, .int .i64 x.m.id, .slice A x.m.gs.length c, .int .i64 x.m.tp, .string x.m.key, .string x.m.body, .int .i64 x.id, .int .i64 x.tm, .slice B x.ms.length d, .int .i64 x.tp, .int .i64 x.wh, .int .i64 x.n]
def RowIs (w : World) (A : Option Addr) (c : Nat) (l : List Int) : Prop := Rd w A l.length (ic l) ∧ l.length ≤ c ∧ c ≤ maxLen
def MgFit (m : Mg) : Prop := i64In m.id ∧ i64In m.tp ∧ m.key.size ≤ maxLen ∧ m.body.size ≤ maxLen
def CmFit (x : Cm) : Prop := (0 ≤ x.k ∧ x.k ≤ 255) ∧ MgFit x.m ∧ i64In x.id ∧ i64In x.tm ∧ i64In x.tp ∧ i64In x.wh ∧ i64In x.n
def MgIs (w : World) (v : Value) (m : Mg) : Prop := ∃ A c, v = .agg (mcells A c m) ∧ RowIs w A c m.gs
def CmIs (w : World) (v : Value) (x : Cm) : Prop := ∃ A c B d, v = .agg (ccells A c B d x) ∧ RowIs w A c x.m.gs ∧ RowIs w B d x.ms
theorem RowIs.below {w w' : World} {A : Option Addr} {c : Nat} {l : List Int} (h : RowIs w A c l) (hb : Below w.heap.size w w') : RowIs w' A c l := ⟨h.1.below hb, h.2⟩
theorem MgIs.below {w w' : World} {v : Value} {m : Mg} (h : MgIs w v m) (hb : Below w.heap.size w w') : MgIs w' v m := by
 obtain ⟨A, c, e, h1⟩ := h
 exact ⟨A, c, e, h1.below hb⟩
theorem CmIs.below {w w' : World} {v : Value} {x : Cm} (h : CmIs w v x) (hb : Below w.heap.size w w') : CmIs w' v x := by
 obtain ⟨A, c, B, d, e, h1, h2⟩ := h
 exact ⟨A, c, B, d, e, h1.below hb, h2.below hb⟩
theorem RowIs.none (w : World) : RowIs w none 0 [] := ⟨⟨rfl, fun h => absurd h (Nat.lt_irrefl 0)⟩, Nat.le_refl _, by unfold maxLen; omega⟩
theorem zero_is (w : World) : CmIs w (.agg #[.int .u8 0, .int .i64 0, .slice none 0 0, .int .i64 0, .string .empty, .string .empty, .int .i64 0, .int .i64 0, .slice none 0 0, .int .i64 0, .int .i64 0, .int .i64 0]) CM.zero := ⟨none, 0, none, 0, rfl, RowIs.none w, RowIs.none w⟩
theorem mz_is (w : World) : MgIs w (.agg #[.int .i64 0, .slice none 0 0, .int .i64 0, .string .empty, .string .empty]) CM.mz := ⟨none, 0, rfl, RowIs.none w⟩
theorem box_cm {w : World} {g : Nat} {t : TypeId} {a0 a1 a2 a3 a4 a5 a6 a7 a8 a9 a10 a11 : Value} (h : Box w g t #[a0, a1, a2, a3, a4, a5, a6, a7, a8, a9, a10, a11]) :
  w.cell? ⟨g, 0, none⟩ = some a0 ∧ w.cell? ⟨g, 1, none⟩ = some a1 ∧ w.cell? ⟨g, 2, none⟩ = some a2 ∧ w.cell? ⟨g, 3, none⟩ = some a3 ∧ w.cell? ⟨g, 4, none⟩ = some a4 ∧ w.cell? ⟨g, 5, none⟩ = some a5 ∧
   w.cell? ⟨g, 6, none⟩ = some a6 ∧ w.cell? ⟨g, 7, none⟩ = some a7 ∧ w.cell? ⟨g, 8, none⟩ = some a8 ∧ w.cell? ⟨g, 9, none⟩ = some a9 ∧ w.cell? ⟨g, 10, none⟩ = some a10 ∧ w.cell? ⟨g, 11, none⟩ = some a11 :=
 ⟨h.cell 0, h.cell 1, h.cell 2, h.cell 3, h.cell 4, h.cell 5, h.cell 6, h.cell 7, h.cell 8, h.cell 9, h.cell 10, h.cell 11⟩
theorem box_mg {w : World} {g : Nat} {t : TypeId} {a b c d e : Value} (h : Box w g t #[a, b, c, d, e]) :
  w.cell? ⟨g, 0, none⟩ = some a ∧ w.cell? ⟨g, 1, none⟩ = some b ∧ w.cell? ⟨g, 2, none⟩ = some c ∧ w.cell? ⟨g, 3, none⟩ = some d ∧ w.cell? ⟨g, 4, none⟩ = some e :=
 ⟨h.cell 0, h.cell 1, h.cell 2, h.cell 3, h.cell 4⟩
end CP
section
open Go.RowKit
theorem own_below3 {w w' : World} {base s : Nat} {e : TypeId} {v : Value} {n : Nat} {xs : List Value} (h : w.ownsRow base e s v n xs) (hb : Below w.heap.size w w') : w'.ownsRow base e s v n xs := by
 refine ⟨h.1, ?_⟩
 rcases h.2 with h0 | ⟨g, cap, cur, hv, hbg, hg, hrest⟩
 ·exact .inl h0
 ·have hlt : g < w.heap.size := by
   rcases Nat.lt_or_ge g w.heap.size with hlt | hge
   ·exact hlt
   ·rw [Array.getElem?_eq_none hge] at hg; cases hg
  exact .inr ⟨g, cap, cur, hv, hbg, (hb.block g hlt).trans hg, hrest⟩
theorem own_base {w : World} {base base' s : Nat} {e : TypeId} {v : Value} {n : Nat} {xs : List Value} (h : w.ownsRow base e s v n xs) (hb : base' ≤ base) : w.ownsRow base' e s v n xs := by
 refine ⟨h.1, ?_⟩
 rcases h.2 with h0 | ⟨g, cap, cur, hv, hbg, hrest⟩
 ·exact .inl h0
 ·exact .inr ⟨g, cap, cur, hv, Nat.le_trans hb hbg, hrest⟩
theorem own_form {w : World} {base s : Nat} {e : TypeId} {v : Value} {n : Nat} {xs : List Value} (h : w.ownsRow base e s v n xs) :
  ∃ A c, v = .slice A n c ∧ n ≤ c ∧ c ≤ maxLen := by
 rcases h.2 with ⟨rfl, rfl⟩ | ⟨g, cap, cur, rfl, _, _, hnc, hcm, _⟩
 ·exact ⟨none, 0, rfl, Nat.le_refl _, Nat.zero_le _⟩
 ·exact ⟨_, cap, rfl, hnc, hcm⟩
def RdG (w : World) (s : Nat) (A : Option Addr) (m : Nat) (xs : List Value) : Prop :=
 xs.length = m * s ∧ (0 < m → ∃ ad, A = some ad ∧ ad.block < w.heap.size ∧ ∀ j u, xs[j]? = some u → w.cell? (ad.add j) = some u)
theorem Rd.g {w : World} {A : Option Addr} {m : Nat} {xs : List Value} (h : Rd w A m xs) : RdG w 1 A m xs := ⟨by rw [h.1]; omega, h.2⟩
theorem RdG.below {w w' : World} {s m : Nat} {A : Option Addr} {xs : List Value} (h : RdG w s A m xs) (hb : Below w.heap.size w w') : RdG w' s A m xs :=
 ⟨h.1, fun hn => by
  obtain ⟨ad, e, hB, hc⟩ := h.2 hn
  exact ⟨ad, e, Nat.lt_of_lt_of_le hB hb.size, fun j u hu => (hb.cell (by rw [block_of_add]; exact hB)).trans (hc j u hu)⟩⟩
theorem RdG.alloc {w : World} {s m : Nat} {A : Option Addr} {xs : List Value} (h : RdG w s A m xs) (o : Obj) : RdG (w.alloc o) s A m xs := h.below ((Below.refl _ _).alloc n! o)
theorem rdG_box {w : World} {g n s : Nat} {t : TypeId} {cs : Array Value} {xs : List Value} (h : Box w g t cs) (hx : cs.toList = xs) (hn : xs.length = n * s) : RdG w s (some ⟨g, 0, none⟩) n xs := by
 refine ⟨hn, fun _ => ⟨_, rfl, h.lt, fun j u hu => ?_⟩⟩
 have : (⟨g, 0, none⟩ : Addr).add j = ⟨g, j, none⟩ := by unfold Addr.add; split <;> simp_all
 rw [this, h.cell j, ← hu, ← hx]
 simp
theorem run_append_g {P : Program} (w : World) (base : Nat) (t ty e : TypeId) (i : TypeInfo) (z : Value) (s bytes : Nat) (ht : P.underlying t = some (.slice e)) (hi : P.info? e = some i) (hz : i.zero = some z)
  (hsize : i.size = s) (hby : i.bytes = bytes) (hzs : z.cells.size = s) (hsz : 0 < s)
  (v : Value) (n : Nat) (xs : List Value) (hown : w.ownsRow base e s v n xs)
  (A : Option Addr) (m c : Nat) (news : List Value) (hr : RdG w s A m news) (h1 : ∀ u ∈ news, u.oneCell' = true)
  (h63 : n + m ≤ maxLen) (hbytes : (n + m) * bytes ≤ 140737488355328) (hbase : base ≤ w.heap.size) :
  ∃ v' w', (Builtin.append_ #[t, t] ty #[v, .slice A m c]).run P w = .ok v' w' ∧ w'.ownsRow base e s v' (n + m) (xs ++ news) ∧ w.grownBy w' v.ownBlock ∧
   (v'.ownBlock = v.ownBlock ∨ v'.ownBlock = some w.heap.size) := by
 rcases A with _ | ad
 ·have hm : m = 0 := by
   rcases Nat.eq_zero_or_pos m with h0 | h0
   ·exact h0
   ·obtain ⟨ad, h, _⟩ := hr.2 h0; cases h
  subst hm
  have hn : news = [] := List.eq_nil_of_length_eq_zero (by rw [hr.1]; omega)
  subst hn
  refine ⟨v, w, ?_, by simpa using hown, World.grownBy.refl w _, .inl rfl⟩
  rcases hown.2 with ⟨rfl, rfl⟩ | ⟨g, cap, cur, rfl, _, _, hnc, _⟩
  ·simp [Builtin.append_, run_underlying ht, sizeOf, typeInfo, hi, Builtin.lenOf, Builtin.firstCells]
  ·simp [Builtin.append_, run_underlying ht, sizeOf, typeInfo, hi, Builtin.lenOf, Builtin.firstCells, hnc, storeCells]
 ·have hcells : ∀ j u, news[j]? = some u → w.cell? (ad.add j) = some u := by
   intro j u hu
   rcases Nat.eq_zero_or_pos m with h0 | h0
   ·subst h0
    have hn : news = [] := List.eq_nil_of_length_eq_zero (by rw [hr.1]; omega)
    subst hn
    simp at hu
   ·obtain ⟨ad', h, _, hc⟩ := hr.2 h0
    injection h with h
    subst h
    exact hc j u hu
  obtain ⟨v', w', hrun, h2, h3, _, h5⟩ := run_append_own_at (P := P) w base t ty e i z s bytes ht hi hz hsize hby hzs hsz v n xs hown ad m c news hr.1 hcells h1 h63 hbytes hbase
  exact ⟨v', w', hrun, h2, h3, h5⟩
theorem wpList_append_g {P : Program} (w : World) {ops : Array Oper} {rest : List Oper} {o : Oper} {a : Act} {Q : Exit → Act → World → Prop} (hgd : o.guard = none) (so x : Operand) (t : TypeId)
  (ho : o.op = .call { callee := .builtin .append, args := #[so, x], argTypes := #[t, t] })
  (base : Nat) (e : TypeId) (i : TypeInfo) (z : Value) (s bytes : Nat) (ht : P.underlying t = some (.slice e)) (hi : P.info? e = some i) (hz : i.zero = some z)
  (hsize : i.size = s) (hby : i.bytes = bytes) (hzs : z.cells.size = s) (hsz : 0 < s)
  (v : Value) (n : Nat) (xs : List Value) (hs : a.eval so = v) (hown : w.ownsRow base e s v n xs)
  (A : Option Addr) (m c : Nat) (news : List Value) (hx : a.eval x = .slice A m c) (hr : RdG w s A m news) (h1 : ∀ u ∈ news, u.oneCell' = true)
  (h63 : n + m ≤ maxLen) (hbytes : (n + m) * bytes ≤ 140737488355328) (hbase : base ≤ w.heap.size)
  (h : ∀ v' w', w'.ownsRow base e s v' (n + m) (xs ++ news) → w.grownBy w' v.ownBlock → (v'.ownBlock = v.ownBlock ∨ v'.ownBlock = some w.heap.size) → wpList P ops Q rest (a.put o.dst v') w') : wpList P ops Q (o :: rest) a w := by
 refine wpList_plain hgd fun K hK => ?_
 obtain ⟨v', w', hrun, h2, h3, h4⟩ := run_append_g (P := P) w base t o.type e i z s bytes ht hi hz hsize hby hzs hsz v n xs hown A m c news hr h1 h63 hbytes hbase
 unfold Oper.wp execOp
 simp only [ho, resolve, invoke, builtin, Sem.run_bind, Sem.run_pure, Result.andThen_ok, List.map_toArray, List.map_cons, List.map_nil, hs, hx, hrun]
 exact hK _ _ (h v' w' h2 h3 h4)
theorem own_block {w : World} {base s n g : Nat} {e : TypeId} {v : Value} {xs : List Value} (h : w.ownsRow base e s v n xs) (hg : v.ownBlock = some g) : base ≤ g ∧ ∃ cur, Box w g e cur := by
 rcases h.2 with ⟨rfl, _⟩ | ⟨g', cap, cur, rfl, hb, hx, _⟩
 ·cases hg
 ·injection hg with hg
  subst hg
  exact ⟨hb, cur, hx⟩
theorem below_row {w0 w w' : World} {base s n : Nat} {e : TypeId} {v : Value} {xs : List Value} (hb : Below base w0 w) (h : w.ownsRow base e s v n xs) (hB : base ≤ w.heap.size) (hg : w.grownBy w' v.ownBlock) : Below base w0 w' :=
 hb.grown hg hB fun g hgu => (own_block h hgu).1
theorem Box.grown {w w' : World} {g : Nat} {t : TypeId} {cs : Array Value} {r : Option Nat} (h : Box w g t cs) (hg : w.grownBy w' r) (hr : some g ≠ r) : Box w' g t cs := (hg.block g h.lt hr).trans h
theorem own_grown {w w' : World} {base s n : Nat} {e : TypeId} {v : Value} {xs : List Value} {r : Option Nat} (h : w.ownsRow base e s v n xs) (hg : w.grownBy w' r) (hr : ∀ g, v.ownBlock = some g → some g ≠ r) : w'.ownsRow base e s v n xs := by
 refine ⟨h.1, ?_⟩
 rcases h.2 with h0 | ⟨g, cap, cur, rfl, hb, hx, hrest⟩
 ·exact .inl h0
 ·exact .inr ⟨g, cap, cur, rfl, hb, Box.grown hx hg (hr g rfl), hrest⟩
def flat {α : Type} (f : α → List Value) (l : List α) : List Value := l.flatMap f
section
variable {α : Type} {f : α → List Value} {s : Nat}
theorem flat_cons (a : α) (l : List α) : flat f (a :: l) = f a ++ flat f l := rfl
theorem flat_append (l r : List α) : flat f (l ++ r) = flat f l ++ flat f r := by simp [flat]
theorem flat_one (a : α) : flat f [a] = f a := by simp [flat]
theorem flat_length : ∀ {l : List α}, (∀ a ∈ l, (f a).length = s) → (flat f l).length = l.length * s
 | [], _ => by simp [flat]
 | a :: l, h => by
  rw [flat_cons, List.length_append, h a (List.mem_cons_self ..), flat_length (fun b hb => h b (List.mem_cons_of_mem _ hb)), List.length_cons, Nat.add_mul, Nat.one_mul, Nat.add_comm]
theorem flat_get : ∀ {l : List α} {k : Nat} {a : α}, (∀ a ∈ l, (f a).length = s) → l[k]? = some a → ∀ j, j < s → (flat f l)[k * s + j]? = (f a)[j]?
 | [], k, a, _, h, j, _ => by simp at h
 | b :: l, 0, a, hf, h, j, hj => by
  simp at h; subst h
  have := hf b (List.mem_cons_self ..)
  rw [flat_cons, Nat.zero_mul, Nat.zero_add, List.getElem?_append_left (by omega)]
 | b :: l, k + 1, a, hf, h, j, hj => by
  have hb := hf b (List.mem_cons_self ..)
  have ih := flat_get (l := l) (k := k) (a := a) (fun b hb => hf b (List.mem_cons_of_mem _ hb)) (by simpa using h) j hj
  rw [flat_cons, Nat.add_mul, Nat.one_mul, List.getElem?_append_right (by omega), hb, ← ih]
  congr 1; omega
end
theorem one_flat {α : Type} {f : α → List Value} (h : ∀ a, ∀ u ∈ f a, u.oneCell' = true) (l : List α) : ∀ u ∈ flat f l, u.oneCell' = true := by
 intro u hu
 unfold flat at hu
 obtain ⟨a, _, hu⟩ := List.mem_flatMap.1 hu
 exact h a u hu
theorem step_append_h {P : Program} {ops : Array Oper} {o : Oper} {a : Act} {w : World} {K : Act → World → Prop} {Q : Exit → Act → World → Prop} {E : Prop}
  (hgd : o.guard = none) (so x : Operand) (t : TypeId)
  (ho : o.op = .call { callee := .builtin .append, args := #[so, x], argTypes := #[t, t] })
  (base : Nat) (e : TypeId) (i : TypeInfo) (z : Value) (s bytes : Nat) (ht : P.underlying t = some (.slice e)) (hi : P.info? e = some i) (hz : i.zero = some z)
  (hsize : i.size = s) (hby : i.bytes = bytes) (hzs : z.cells.size = s) (hsz : 0 < s)
  (v : Value) (n : Nat) (xs : List Value) (hs : a.eval so = v) (hown : w.ownsRow base e s v n xs)
  (A : Option Addr) (m c : Nat) (news : List Value) (hx : a.eval x = .slice A m c) (hr : RdG w s A m news) (h1 : ∀ u ∈ news, u.oneCell' = true)
  (h63 : n + m ≤ maxLen) (hbytes : (n + m) * bytes ≤ 140737488355328) (hbase : base ≤ w.heap.size)
  (hK : ∀ v' w', w'.ownsRow base e s v' (n + m) (xs ++ news) → w.grownBy w' v.ownBlock → (v'.ownBlock = v.ownBlock ∨ v'.ownBlock = some w.heap.size) → K (a.put o.dst v') w') :
  if Region.wanted o (yielded ops a.tmps) = true then Oper.wp P o a w K Q else E := by
 have hw : Region.wanted o (yielded ops a.tmps) = true := by simp [Region.wanted, hgd]
 rw [if_pos hw]
 obtain ⟨v', w', hrun, h2, h3, h4⟩ := run_append_g (P := P) w base t o.type e i z s bytes ht hi hz hsize hby hzs hsz v n xs hown A m c news hr h1 h63 hbytes hbase
 unfold Oper.wp execOp
 simp only [ho, resolve, invoke, builtin, Sem.run_bind, Sem.run_pure, Result.andThen_ok, List.map_toArray, List.map_cons, List.map_nil, hs, hx, hrun]
 exact hK _ _ h2 h3 h4
theorem own_some {w : World} {base s n c : Nat} {e : TypeId} {A : Option Addr} {xs : List Value} (h : w.ownsRow base e s (.slice A n c) n xs) (hn : 0 < n) : ∃ q, A = some ⟨q, 0, none⟩ ∧ base ≤ q ∧ ∀ j u, xs[j]? = some u → w.cell? ⟨q, j, none⟩ = some u := by
 obtain ⟨g, cap, hv, hb, hlt⟩ := h.form hn
 have hA : A = some ⟨g, 0, none⟩ := by injection hv
 subst hA
 refine ⟨g, rfl, hb, fun j u hu => ?_⟩
 have := h.cells (g := g) rfl j u hu
 rwa [show (⟨g, 0, none⟩ : Addr).add j = ⟨g, j, none⟩ by unfold Addr.add; split <;> simp_all] at this
structure Kept (S : TypeId → Prop) (a b : World) : Prop where
 os : b.os = a.os
 tape : b.tape = a.tape
 output : b.output = a.output
 size : a.heap.size ≤ b.heap.size
 box : ∀ (g : Nat) (e : TypeId) (cs : Array Value), ¬ S e → Box a g e cs → Box b g e cs
section
variable {S : TypeId → Prop} {a b c : World}
theorem Kept.trans (h : Kept S a b) (k : Kept S b c) : Kept S a c := ⟨k.os.trans h.os, k.tape.trans h.tape, k.output.trans h.output, Nat.le_trans h.size k.size, fun g e cs he hb => k.box g e cs he (h.box g e cs he hb)⟩
theorem Kept.of_below (h : Below a.heap.size a b) : Kept S a b := ⟨h.os, h.tape, h.output, h.size, fun g e cs _ hb => hb.below h hb.lt⟩
theorem Kept.set {g i : Nat} {e : TypeId} {cs : Array Value} (h : Box a g e cs) (he : S e) (u : Value) : Kept S a (a.setCell ⟨g, i, none⟩ u) := by
 have k : Below g a (a.setCell ⟨g, i, none⟩ u) := (Below.refl g a).setCell (p := ⟨g, i, none⟩) (Nat.le_refl g) u
 refine ⟨k.os, k.tape, k.output, k.size, fun g' e' cs' he' hb => hb.far (p := ⟨g, i, none⟩) (fun e2 => ?_) u⟩
 have e3 : g' = g := e2
 subst e3
 rw [Box] at h hb
 rw [h] at hb
 injection hb with hb
 injection hb with _ hb
 exact he' (hb ▸ he)
theorem Kept.grown {base s n : Nat} {e : TypeId} {v : Value} {xs : List Value} (h : a.ownsRow base e s v n xs) (he : S e) (hg : a.grownBy b v.ownBlock) : Kept S a b := by
 refine ⟨hg.os, hg.tape, hg.output, hg.size, fun g' e' cs' he' hb => hb.grown hg (fun e2 => ?_)⟩
 obtain ⟨_, cur, hx⟩ := own_block h e2.symm
 rw [Box] at hx hb
 rw [hx] at hb
 injection hb with hb
 injection hb with _ hb
 exact he' (hb ▸ he)
theorem Kept.own {base s n : Nat} {e : TypeId} {v : Value} {xs : List Value} (k : Kept S a b) (h : a.ownsRow base e s v n xs) (he : ¬ S e) : b.ownsRow base e s v n xs := by
 refine ⟨h.1, ?_⟩
 rcases h.2 with h0 | ⟨g, cap, cur, hv, hb, hx, hrest⟩
 ·exact .inl h0
 ·exact .inr ⟨g, cap, cur, hv, hb, k.box _ _ _ he hx, hrest⟩
theorem Kept.mono {S' : TypeId → Prop} (k : Kept S a b) (h : ∀ e, S e → S' e) : Kept S' a b := ⟨k.os, k.tape, k.output, k.size, fun g e cs he hb => k.box g e cs (fun hs => he (h e hs)) hb⟩
end
def Src (w : World) (g : Nat) (A : Option Addr) (n c : Nat) (l : List UInt8) : Prop := Rd w A n (bc l) ∧ n ≤ c ∧ c ≤ maxLen ∧ (∀ ad, A = some ad → 0 < n → ad.block < g)
theorem Src.below {w w' : World} {g : Nat} {A : Option Addr} {n c : Nat} {l : List UInt8} (h : Src w g A n c l) (hb : Below g w w') : Src w' g A n c l :=
 ⟨⟨h.1.1, fun hn => by
  obtain ⟨ad, e, hB, hc⟩ := h.1.2 hn
  exact ⟨ad, e, Nat.lt_of_lt_of_le hB hb.size, fun j u hu => (hb.cell (by rw [block_of_add]; exact h.2.2.2 ad e hn)).trans (hc j u hu)⟩⟩, h.2⟩
theorem Src.cut {w : World} {g : Nat} {A : Option Addr} {n c k : Nat} {l : List UInt8} (h : Src w g A n c l) (hk : k ≤ n) : Src w g (if c = k then A else A.map (fun x => x.add k)) (n - k) (c - k) (l.drop k) := by
 obtain ⟨h1, h2, h3, h4⟩ := h
 refine ⟨by rw [← bc_drop]; exact h1.cut hk h2, by omega, by omega, fun ad e hn => ?_⟩
 by_cases hck : c = k
 ·omega
 ·rw [if_neg hck] at e
  rcases A with _ | a
  ·cases e
  ·simp at e
   subst e
   rw [block_of_add]
   exact h4 a rfl (by omega)
theorem src_len {w : World} {g : Nat} {A : Option Addr} {n c : Nat} {l : List UInt8} (h : Src w g A n c l) : l.length = n := by have := h.1.1; rwa [bc_length] at this
theorem src_new {w : World} {A : Option Addr} {n c : Nat} {l : List UInt8} (h : Rd w A n (bc l)) (h1 : n ≤ c) (h2 : c ≤ maxLen) : Src w w.heap.size A n c l :=
 ⟨h, h1, h2, fun ad e hn => by obtain ⟨a, e2, hb, _⟩ := h.2 hn; rw [e] at e2; injection e2 with e2; rw [e2]; exact hb⟩
theorem conv_ex (w : World) (s : ByteArray) (hs : s.size ≤ maxLen) : ∃ A c w', (convert 9 120 (.string s)).run Tryz.prog w = .ok (.slice A s.size c) w' ∧ Rd w' A s.size (bc (RM.bsz s)) ∧ s.size ≤ c ∧ c ≤ maxLen ∧ Below w.heap.size w w' := by
 refine ⟨_, _, _, run_bytes_of_string w 9 120 5 s Tryz.underlying9 Tryz.underlying120 Tryz.underlying5, ?_, grownCap_ge _ _ _ _, grownCap_le_maxLen _ _ _ _ hs, ((Below.refl _ _).drew).alloc n! _⟩
 refine ⟨by rw [bc_length, RM.bsz_len], fun _ => ⟨_, rfl, by simp, fun j u hu => ?_⟩⟩
 have e : (⟨w.heap.size, 0, none⟩ : Addr).add j = ⟨w.heap.size, j, none⟩ := by unfold Addr.add; by_cases hj : j = 0 <;> simp [hj]
 rw [e]
 have h := World.cell?_alloc_mark w.drew (bytesRow s (grownCap w s.size 0 5)) 5 ((bytesRow s (grownCap w s.size 0 5)).size, (bytesRow s (grownCap w s.size 0 5)).size + 1) j
 rw [show w.drew.heap.size = w.heap.size from rfl] at h
 rw [h]
 have hj : j < s.data.size := by
  rcases Nat.lt_or_ge j s.data.size with h | h
  ·exact h
  ·rw [List.getElem?_eq_none (by rw [bc_length, RM.bsz_len]; exact h)] at hu; cases hu
 unfold bytesRow
 rw [Array.getElem?_append_left (by simpa using hj), ← hu]
 unfold bc RM.bsz
 simp
theorem str_ne {t s : ByteArray} (h : t ≠ s) : (t.toList == s.toList) = false := by
 rw [beq_eq_false_iff_ne]
 intro e
 rw [ByteArray.toList_eq, ByteArray.toList_eq] at e
 exact h (RM.bsz_eq e)
end
namespace TP
open Go.RowKit
theorem isnan_any (x : Int) (w : World) : Calls Tryz.prog 99 #[.int .i64 x] w fun e w' => e = .returned (.bool false) ∧ w = w' := by
 have h : ((x : Int) != x) = false := by simp
 go_enter Tryz.func99, Tryz.ntmps99
 go_wp2_with fail
 go_ret
 exact ⟨by simp, rfl⟩
theorem compare_any (a b : Int) (w : World) : Calls Tryz.prog 82 #[.int .i64 a, .int .i64 b] w fun e w' => e = .returned (.int .i64 (TM.cmpI a b)) ∧ w = w' := by
 obtain ⟨z, hz⟩ : ∃ z, z = TM.cmpI a b := ⟨_, rfl⟩
 rw [← hz]
 unfold TM.cmpI at hz
 rcases (show a < b ∨ (¬ a < b ∧ b < a) ∨ (¬ a < b ∧ ¬ b < a) by omega) with h1 | ⟨h1, h2⟩ | ⟨h1, h2⟩
 ·obtain rfl : z = -1 := by rw [hz, if_pos h1]
  clear hz
  go_enter Tryz.func82, Tryz.ntmps82
  go_wp2_with fail
  refine (isnan_any a w).mono ?_
  rintro e w1 ⟨rfl, rfl⟩
  go_wp2_with fail
  refine (isnan_any b w).mono ?_
  rintro e w1 ⟨rfl, rfl⟩
  go_wp2_with fail
  go_ret
  exact ⟨rfl, rfl⟩
 ·obtain rfl : z = 1 := by rw [hz, if_neg h1, if_pos h2]
  clear hz
  go_enter Tryz.func82, Tryz.ntmps82
  go_wp2_with fail
  refine (isnan_any a w).mono ?_
  rintro e w1 ⟨rfl, rfl⟩
  go_wp2_with fail
  refine (isnan_any b w).mono ?_
  rintro e w1 ⟨rfl, rfl⟩
  go_wp2_with fail
  go_ret
  exact ⟨rfl, rfl⟩
 ·obtain rfl : z = 0 := by rw [hz, if_neg h1, if_neg h2]
  clear hz
  go_enter Tryz.func82, Tryz.ntmps82
  go_wp2_with fail
  refine (isnan_any a w).mono ?_
  rintro e w1 ⟨rfl, rfl⟩
  go_wp2_with fail
  refine (isnan_any b w).mono ?_
  rintro e w1 ⟨rfl, rfl⟩
  go_wp2_with fail
  go_ret
  exact ⟨rfl, rfl⟩
theorem or_any (bl : Nat) (z y x : Int) (w : World) (h : Box w bl 3 #[.int .i64 z, .int .i64 y]) (hx : x = TM.orI z y) :
  Calls Tryz.prog 81 #[.slice (some ⟨bl, 0, none⟩) 2 2] w fun e w' => e = .returned (.int .i64 x) ∧ w = w' := by
 have c0 := h.cell 0
 have c1 := h.cell 1
 simp at c0 c1
 unfold TM.orI at hx
 have HX := h! hx
 clear h hx
 go_enter Tryz.func81, Tryz.ntmps81
 go_wp2_with fail
 go_loop [8] (fun i => ∃ k : Nat, k ≤ 2 ∧ i = .int .i64 k ∧ Hid ((1 ≤ k → z = 0) ∧ (2 ≤ k → y = 0))) (fun i => 2 - (intOf i).toNat)
 case atStart => exact ⟨0, by omega, rfl, h! ⟨by omega, by omega⟩⟩
 case round =>
  obtain ⟨k, hk, rfl, HK⟩ := hrel
  rcases (show k = 0 ∨ k = 1 ∨ k = 2 by omega) with rfl | rfl | rfl
  ·by_cases hz : z = 0
   ·have HZ := h! hz
    have hb : (z != 0) = false := by simp [hz]
    clear hz
    go_wp2_with fail
    go_round
    case rel => exact ⟨1, by omega, rfl, h! ⟨fun _ => HZ.out, by omega⟩⟩
    case measure => simp [intOf]
   ·have HZ := h! (show x = z by rw [HX.out, if_pos hz])
    have hb : (z != 0) = true := by simp [hz]
    clear hz
    go_wp2_with fail
    go_ret
    exact ⟨by rw [HZ.out]; rfl, rfl⟩
  ·have hz := HK.out.1 (by omega)
   by_cases hy : y = 0
   ·have HZ := h! (And.intro hz hy)
    have hb : (y != 0) = false := by simp [hy]
    clear hz hy
    go_wp2_with fail
    go_round
    case rel => exact ⟨2, by omega, rfl, h! ⟨fun _ => HZ.out.1, fun _ => HZ.out.2⟩⟩
    case measure => simp [intOf]
   ·have HZ := h! (show x = y by rw [HX.out, if_neg (fun h => h hz)])
    have hb : (y != 0) = true := by simp [hy]
    clear hy hz
    go_wp2_with fail
    go_ret
    exact ⟨by rw [HZ.out]; rfl, rfl⟩
  ·have HZ := h! (show x = 0 by rw [HX.out, if_neg (fun h => h (HK.out.1 (by omega)))]; exact HK.out.2 (by omega))
   go_wp2_with fail
   go_ret
   exact ⟨by rw [HZ.out]; rfl, rfl⟩
end TP
end Go.Proofs.YteebeiaokfenmaaGreat
