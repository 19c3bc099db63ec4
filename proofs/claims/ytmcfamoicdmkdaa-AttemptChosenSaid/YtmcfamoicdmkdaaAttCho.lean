/-
  Words for AttemptChosen: an attempt that reads the same wherever all blocks but some stay; what holds as acceptances come; the law's same. Conditions: as each theorem says.
-/
import Derived.Test.YtmcfamoicdmkdaaAttMid
import Derived.Test.YtmcfamoicdmkdaaAttS
namespace Go.Proofs.Ytmcfamoicdmkdaa
open Go.RowKit
set_option linter.unusedVariables false

theorem Rd.heap {w W : World} {A : Option Addr} {n : Nat} {xs : List Value} (h : Rd w A n xs) (hk : ∀ k, k < w.heap.size → W.heap[k]? = w.heap[k]?) (hs : w.heap.size ≤ W.heap.size) : Rd W A n xs :=
  ⟨h.1, fun hn => by
    obtain ⟨ad, e, hb, hc⟩ := h.2 hn
    exact ⟨ad, e, Nat.lt_of_lt_of_le hb hs, fun j u hu => (World.cell?_of_block (by rw [block_of_add]; exact hk _ hb)).trans (hc j u hu)⟩⟩
theorem RdP.heap {w W : World} {A : Option Addr} {n : Nat} {xs : List AM.Pr} (h : RdP w A n xs) (hk : ∀ k, k < w.heap.size → W.heap[k]? = w.heap[k]?) (hs : w.heap.size ≤ W.heap.size) : RdP W A n xs :=
  ⟨h.1, fun hn => by
    obtain ⟨ad, e, hb, hc⟩ := h.2 hn
    exact ⟨ad, e, Nat.lt_of_lt_of_le hb hs, fun j u hu => (World.cell?_of_block (by rw [block_of_add]; exact hk _ hb)).trans (hc j u hu)⟩⟩
theorem AtIs.heap {w W : World} {v : Value} {a : AM.At} (h : AtIs w v a) (hk : ∀ k, k < w.heap.size → W.heap[k]? = w.heap[k]?) (hs : w.heap.size ≤ W.heap.size) : AtIs W v a := by
  obtain ⟨A, n, c, B, m, d, C, k, f, e, h1, h2, h3⟩ := h
  exact ⟨A, n, c, B, m, d, C, k, f, e, h1.heap hk hs, h2.heap hk hs, h3.heap hk hs⟩
/-- an attempt that reads as x wherever all blocks but those of S stay -/
def AtSafe (w : World) (S : Nat → Prop) (v : Value) (x : AM.At) : Prop := ∀ W : World, (∀ k, k < w.heap.size → ¬ S k → W.heap[k]? = w.heap[k]?) → w.heap.size ≤ W.heap.size → AtIs W v x
theorem AtSafe.is {w : World} {S : Nat → Prop} {v : Value} {x : AM.At} (h : AtSafe w S v x) : AtIs w v x := h w (fun _ _ _ => rfl) (Nat.le_refl _)
theorem AtSafe.step {w w' : World} {S S' : Nat → Prop} {v : Value} {x : AM.At} (h : AtSafe w S v x) (hk : ∀ k, k < w.heap.size → ¬ S k → w'.heap[k]? = w.heap[k]?) (hs : w.heap.size ≤ w'.heap.size) (hS : ∀ k, k < w.heap.size → S' k → S k) : AtSafe w' S' v x :=
  fun W h1 h2 => h W (fun k hkw hn => (h1 k (Nat.lt_of_lt_of_le hkw hs) (fun e => hn (hS k hkw e))).trans (hk k hkw hn)) (Nat.le_trans hs h2)
theorem AtSafe.below {w w' : World} {S : Nat → Prop} {v : Value} {x : AM.At} (h : AtSafe w S v x) (hb : Below w.heap.size w w') : AtSafe w' S v x := h.step (fun k hk _ => hb.block k hk) hb.size (fun _ _ h => h)
theorem AtSafe.put7 {w : World} {S : Nat → Prop} {g : Nat} {v : Value} {x : AM.At} (h : AtSafe w S v x) (hg : S g) (x1 x2 x3 x4 x5 x6 x7 : Value) : AtSafe (Go.Proofs.Ytmcfamoicdmkdaa.put7 w g x1 x2 x3 x4 x5 x6 x7) S v x := by
  refine h.step (fun k hk hn => ?_) (by simp only [Go.Proofs.Ytmcfamoicdmkdaa.put7, size_set]; exact Nat.le_refl _) (fun _ _ h => h)
  have hne : k ≠ g := fun e => hn (e ▸ hg)
  unfold Go.Proofs.Ytmcfamoicdmkdaa.put7
  rw [Below.heap_setCell _ _ _ _ hne, Below.heap_setCell _ _ _ _ hne, Below.heap_setCell _ _ _ _ hne, Below.heap_setCell _ _ _ _ hne, Below.heap_setCell _ _ _ _ hne, Below.heap_setCell _ _ _ _ hne, Below.heap_setCell _ _ _ _ hne]
/-- behind what a row's growth leaves: the row's block old or new -/
theorem AtSafe.grown {w w' : World} {S S' : Nat → Prop} {r : Option Nat} {v : Value} {x : AM.At} (h : AtSafe w S v x) (hg : w.grownBy w' r) (hr : ∀ g, r = some g → S g) (hS : ∀ k, k < w.heap.size → S' k → S k) : AtSafe w' S' v x :=
  h.step (fun k hk hn => hg.block k hk (fun e => hn (hr k e.symm))) hg.size hS
theorem atSafe_args {w wr : World} {S : Nat → Prop} {v : Value} {a : AM.At} (h : AtIs w v a) (hb : Below w.heap.size w wr) (hS : ∀ k, S k → w.heap.size ≤ k) : AtSafe wr S v a :=
  fun W h1 h2 => h.heap (fun k hk => (h1 k (Nat.lt_of_lt_of_le hk hb.size) (fun e => by have := hS k e; omega)).trans (hb.block k hk)) (Nat.le_trans hb.size h2)
theorem own_apart2 {w W : World} {S : Nat → Prop} {base s n : Nat} {e : TypeId} {v : Value} {xs : List Value} (h : w.ownsRow base e s v n xs) (hS : ∀ k, S k → k < base) (hk : ∀ k, k < w.heap.size → ¬ S k → W.heap[k]? = w.heap[k]?) : W.ownsRow base e s v n xs := by
  refine ⟨h.1, ?_⟩
  rcases h.2 with h0 | ⟨g, cap, cur, hv, hbg, hx, hrest⟩
  · exact .inl h0
  · exact .inr ⟨g, cap, cur, hv, hbg, (hk g (Box.lt hx) (fun e => by have := hS g e; omega)).trans hx, hrest⟩
theorem atSafe_own {w : World} {S : Nat → Prop} {base : Nat} {v : Value} {x : AM.At} (h : AtOwn w base v x) (hS : ∀ k, S k → k < base) : AtSafe w S v x := by
  intro W h1 _
  obtain ⟨a, b, c, e, o1, o2, o3⟩ := h
  exact AtOwn.is (base := base) ⟨a, b, c, e, own_apart2 o1 hS h1, own_apart2 o2 hS h1, own_apart2 o3 hS h1⟩

/-- what holds as acceptances come: a at the start, x now, z all that came -/
def ChoInv (a : AM.At) (z : List Int) (x : AM.At) : Prop :=
  AM.may x = true ∧ Fit x ∧ x.ms = a.ms ∧ (a.ph < 2 → x = a) ∧ (2 ≤ a.ph → 2 ≤ x.ph ∧ ∀ y, y ∈ x.ac ↔ y ∈ z)
theorem cho_start {a : AM.At} (h : AM.may a = true) (F : Fit a) : ChoInv a a.ac a := ⟨h, F, rfl, fun _ => rfl, fun h2 => ⟨h2, fun _ => Iff.rfl⟩⟩
theorem cho_next {a x : AM.At} {z : List Int} {b n : Int} (h : ChoInv a z x) (he : AM.errA x b n = 0) :
    ChoInv a (z ++ [n]) (AM.acc x b n) ∧ x.ph ≤ (AM.acc x b n).ph ∧ (AM.acc x b n).ba = x.ba ∧ (AM.acc x b n).va = x.va ∧ (AM.acc x b n).wi = x.wi ∧ (AM.acc x b n).ms = x.ms := by
  obtain ⟨h1, h2, h3, h4, h5⟩ := h
  obtain ⟨g1, g2, g3, g4⟩ := AM.errA_zero he
  have hm := AM.may_acc he
  have hf := fit_acc (b := b) (n := n) h2
  have e := AM.acc_eq he
  have ha : ¬ a.ph < 2 := fun hlt => by have := h4 hlt; rw [this] at g2; omega
  obtain ⟨h6, h7⟩ := h5 (by omega)
  obtain ⟨_, k1, k0, k⟩ := AM.may_pos g1 (by omega)
  rw [if_neg (by omega)] at k
  refine ⟨⟨hm, hf, by rw [e]; exact h3, fun hlt => absurd hlt ha, fun _ => ⟨?_, fun y => ?_⟩⟩, ?_, by rw [e], by rw [e], by rw [e], by rw [e]⟩
  · rw [e]; show 2 ≤ (if _ then (3 : Int) else 2); split <;> omega
  · rw [e]
    show y ∈ AM.addIs x.ac n ↔ _
    rw [AM.mem_addIs, List.mem_append, List.mem_singleton, h7]
    exact Or.comm
  · rw [e]
    show x.ph ≤ (if AM.most x.ms (AM.addIs x.ac n) = true then (3 : Int) else 2)
    split
    · exact k1
    · rename_i hn
      by_cases h3' : x.ph = 3
      · exact absurd (AM.most_sub (fun y hy => (AM.mem_addIs _ _ _).2 (.inr hy)) (by rw [k.2.2, h3']; rfl)) hn
      · omega
theorem cho_end {a x : AM.At} {z : List Int} {bb : Bool} {y : Int} (h : ChoInv a z x) (h2 : 2 ≤ a.ph) (hl : z.length ≤ 1000) (hm : QM.MostIs x.ms z bb y) : y = 0 ∧ bb = decide (x.ph = 3) := by
  obtain ⟨h1, _, _, _, h5⟩ := h
  obtain ⟨h6, h7⟩ := h5 h2
  obtain ⟨_, _, k0, k⟩ := AM.may_pos h1 (by omega)
  rw [if_neg (by omega)] at k
  obtain ⟨e1, e2⟩ := AM.most_is (AM.okL_may k0) hl hm
  exact ⟨e2, by rw [e1, ← k.2.2]; exact (AM.most_same h7).symm⟩

set_option maxHeartbeats 1000000 in
theorem lsame_any (A : Option Addr) (n c : Nat) (xs : List Int) (B : Option Addr) (m d : Nat) (ys : List Int) (w : World) (h1 : Rd w A n (ic xs)) (h2 : Rd w B m (ic ys)) (hm : n ≤ 9223372036854775807) (hm2 : m ≤ 9223372036854775807) :
    Calls Try.prog 31 #[.slice A n c, .slice B m d] w (BoolQ (decide (xs = ys)) w) := by
  have l1 : xs.length = n := by have := h1.1; rwa [ic_length] at this
  have l2 : ys.length = m := by have := h2.1; rwa [ic_length] at this
  obtain ⟨r, hr⟩ : ∃ r, r = decide (xs = ys) := ⟨_, rfl⟩
  rw [← hr]
  have HR := Lib.hid hr; clear hr
  by_cases hnm : n = m
  · subst hnm
    have HL1 := Lib.hid l1
    have HL2 := Lib.hid l2
    clear l1 l2
    have hne : ((n : Int) != (n : Int)) = false := by simp
    have HS := Lib.hid (show xs.take 0 = ys.take 0 by simp)
    go_enter Try.func31, Try.ntmps31
    go_wp2
    go_loopw [5] (fun i wr => ∃ k q : Nat, k ≤ n ∧ i = .int .i64 k ∧ wr = w.drewN q ∧ Hid (xs.take k = ys.take k)) (fun i _ => n - (intOf i).toNat)
    case atStart => exact ⟨0, 0, by omega, rfl, rfl, HS⟩
    case round =>
      clear HS
      obtain ⟨k, q, hk, rfl, rfl, HT⟩ := hrel
      by_cases hlt : k < n
      · obtain ⟨ad1, u1, rfl, _, hu1, hcell1⟩ := h1.at_ hlt
        obtain ⟨ad2, u2, rfl, _, hu2, hcell2⟩ := h2.at_ hlt
        obtain ⟨z1, e1, rfl⟩ := ic_at hu1
        obtain ⟨z2, e2, rfl⟩ := ic_at hu2
        have hk0 : (0 : Int) ≤ (k : Int) := by omega
        have hkn : (k : Int) < (n : Int) := by omega
        clear hu1 hu2
        by_cases he : z1 = z2
        · subst he
          have HT2 := Lib.hid (take_snoc_eq HT.out e1 e2 rfl)
          clear e1 e2 HT
          have hbz : (z1 != z1) = false := by simp
          go_wp2_with fail
          go_quiet (fail)
          go_wp2_with fail
          go_roundw
          case rel => exact ⟨k + 1, q + nq, by omega, by go_num, by simp, HT2⟩
          case measure => simp [intOf]; omega
        · have HN := Lib.hid (ne_of_at e1 e2 he)
          have hbz : (z1 != z2) = true := by simpa using he
          clear e1 e2 HT he
          go_wp2_with fail
          go_quiet (fail)
          go_wp2_with fail
          go_ret
          exact ⟨by rw [HR.out]; simp [HN.out], q + nq, by simp⟩
      · obtain rfl : n = k := by omega
        have ht : xs = ys := by
          have := HT.out
          rwa [List.take_of_length_le (by have := HL1.out; omega), List.take_of_length_le (by have := HL2.out; omega)] at this
        have HE := Lib.hid ht; clear ht HT
        go_wp2
        go_ret
        exact ⟨by rw [HR.out]; simp [HE.out], q, rfl⟩
  · have hne : ((n : Int) != (m : Int)) = true := by simp; omega
    have hn : ¬ xs = ys := fun e => hnm (by rw [← l1, ← l2, e])
    have hf : r = false := by rw [HR.out]; simpa using hn
    have HF := Lib.hid hf
    clear hn hf
    clear l1 l2 h1 h2
    go_enter Try.func31, Try.ntmps31
    go_wp2
    go_ret
    exact ⟨by rw [HF.out]; rfl, 0, rfl⟩
end Go.Proofs.Ytmcfamoicdmkdaa
