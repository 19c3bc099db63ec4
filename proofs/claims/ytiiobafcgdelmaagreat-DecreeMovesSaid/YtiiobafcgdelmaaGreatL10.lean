/- Contracts of functions of towncrier, layers 5 to 9, and of the document's own ones, part 10; each as its theorem says. -/
import Derived.Test.YtiiobafcgdelmaaGreatL01
import Derived.Test.YtiiobafcgdelmaaGreatL05
import Derived.Shelf.RegionOpenPlain
import Derived.Deep.QuietTactic
import Derived.BigQuiet
import Derived.Test.YtiiobafcgdelmaaGreatL09
import Derived.Test.YtiiobafcgdelmaaGreatL08
set_option linter.unusedVariables false
set_option linter.unusedSimpArgs false
namespace Go.Proofs.YtiiobafcgdelmaaGreat
open Go.RowKit Go.Shelf
def CloQ (b : Bool) (w : World) (e : Ending) (w' : World) : Prop := e = .returned (.bool b) ∧ ∃ q, w' = w.drewN q
set_option maxRecDepth 100000 in
set_option maxHeartbeats 1000000 in
theorem clo_any (g h : Nat) (bl o : Nat) (n c : Nat) (x z : Int) (i : Nat) (W : World) (hi : i < n)
  (h1 : W.cell? ⟨g, 0, none⟩ = some (.slice (some ⟨bl, o, none⟩) n c)) (h2 : W.cell? ⟨h, 0, none⟩ = some (.int .i64 x)) (h3 : W.cell? ⟨bl, o + i, none⟩ = some (.int .i64 z)) :
  Calls Tryz.prog 117 (#[.int .i64 i] ++ #[.pointer (some ⟨g, 0, none⟩), .pointer (some ⟨h, 0, none⟩)]) W (CloQ (decide (x ≤ z)) W) := by
 have hin : (i : Int) < (n : Int) := by omega
 have hi0 : (0 : Int) ≤ (i : Int) := by omega
 go_enter Tryz.func117, Tryz.ntmps117
 go_wp2_with fail
 go_quiet (fail)
 go_wp2_with fail
 go_ret
 exact ⟨rfl, _, rfl⟩
def Bound (p : Nat → Bool) (n lo hi : Nat) : Prop := (∀ t, t < lo → p t = false) ∧ (∀ t, hi ≤ t → t < n → p t = true)
set_option maxRecDepth 100000 in
set_option maxHeartbeats 2000000 in
theorem search_any (cb : Array Value) (n : Nat) (p : Nat → Bool) (w : World) (hn : n ≤ 2000)
  (hf : ∀ (q i : Nat), i < n → Calls Tryz.prog 117 (#[.int .i64 i] ++ cb) (w.drewN q) (CloQ (p i) (w.drewN q)))
  (hmono : ∀ a b, a ≤ b → b < n → p a = true → p b = true) :
  Calls Tryz.prog 116 #[.int .i64 n, .func (.func 117) #[] cb] w fun e w' => ∃ k q : Nat, k ≤ n ∧ Bound p n k k ∧ e = .returned (.int .i64 k) ∧ w' = w.drewN q := by
 have eg : ∀ args w, (callFunc 117 args).run Tryz.prog w = .ok (.enter 117 args) w := enters_of Tryz.func117 (by kernel_rfl) rfl
 have HF := h! hf
 have M := h! hmono
 have HS := h! (show Bound p n 0 n from ⟨fun t ht => absurd ht (Nat.not_lt_zero _), fun t h1 h2 => by omega⟩)
 clear hf hmono
 go_enter Tryz.func116, Tryz.ntmps116
 go_wp2_with fail
 go_loopw [5, 6] (fun a b wr => ∃ (lo hi q : Nat), a = .int .i64 lo ∧ b = .int .i64 hi ∧ lo ≤ hi ∧ hi ≤ n ∧ wr = w.drewN q ∧ Hid (Bound p n lo hi)) (fun a b _ => (intOf b).toNat - (intOf a).toNat)
 case atStart => exact ⟨0, n, 0, rfl, rfl, Nat.zero_le _, Nat.le_refl _, rfl, HS⟩
 case round =>
  clear HS
  obtain ⟨lo, hi, q, rfl, rfl, hlh, hin, rfl, I⟩ := hrel
  by_cases hlt : lo < hi
  ·have hc := HF.out q ((lo + hi) / 2) (by omega)
   rw [show (((lo + hi) / 2 : Nat) : Int) = ((lo : Int) + (hi : Int)) / 2 by omega] at hc
   cases hp : p ((lo + hi) / 2) <;> rw [hp] at hc
   ·have HP := h! hp
    have HC := h! hc
    clear hp hc
    go_wp2_with (go_at_fn 117; refine HC.out.mono ?_; rintro e w' ⟨rfl, nq, rfl⟩)
    go_roundw
    case rel => exact ⟨(lo + hi) / 2 + 1, hi, q + nq, by rw [show ((lo : Int) + (hi : Int)) / 2 + 1 = (((lo + hi) / 2 + 1 : Nat) : Int) by omega], rfl, by omega, hin, by simp, h! ⟨fun t ht => (by
      cases h : p t with
      | false => rfl
      | true => have := M.out t ((lo + hi) / 2) (by omega) (by omega) h; rw [HP.out] at this; cases this), I.out.2⟩⟩
    case measure => simp [intOf]; omega
   ·have HP := h! hp
    have HC := h! hc
    clear hp hc
    go_wp2_with (go_at_fn 117; refine HC.out.mono ?_; rintro e w' ⟨rfl, nq, rfl⟩)
    go_roundw
    case rel => exact ⟨lo, (lo + hi) / 2, q + nq, rfl, by rw [show ((lo : Int) + (hi : Int)) / 2 = (((lo + hi) / 2 : Nat) : Int) by omega], by omega, by omega, by simp, h! ⟨I.out.1, fun t ht htn => M.out ((lo + hi) / 2) t ht htn HP.out⟩⟩
    case measure => simp [intOf]; omega
  ·obtain rfl : hi = lo := by omega
   go_wp2
   go_ret
   exact ⟨hi, q, hin, I.out, rfl, rfl⟩
theorem rise_lt_at : ∀ {p : Int} {l : List Int}, QM.rise p l = true → ∀ (i j : Nat) (a b : Int), i < j → l[i]? = some a → l[j]? = some b → a < b
 | p, [], _, i, j, a, b, _, h, _ => by simp at h
 | p, x :: l, h, 0, j + 1, a, b, _, h1, h2 => by
  simp only [QM.rise, Bool.and_eq_true, decide_eq_true_eq] at h
  simp at h1 h2
  subst h1
  exact (QM.rise_lt h.2.2 b (List.mem_of_getElem? h2)).1
 | p, x :: l, h, i + 1, j + 1, a, b, hij, h1, h2 => by
  simp only [QM.rise, Bool.and_eq_true, decide_eq_true_eq] at h
  simp at h1 h2
  exact rise_lt_at h.2.2 i j a b (by omega) h1 h2
theorem take_at {α : Type} (f : α → Bool) : ∀ (l : List α) (k : Nat), k ≤ l.length → (∀ t a, t < k → l[t]? = some a → f a = true) → (∀ a, l[k]? = some a → f a = false) → l.takeWhile f = l.take k ∧ l.dropWhile f = l.drop k
 | [], k, hk, _, _ => by simp at hk; subst hk; simp
 | x :: l, 0, _, _, h => by
  have := h x rfl
  simp [this]
 | x :: l, k + 1, hk, h1, h2 => by
  have hx := h1 0 x (by omega) rfl
  obtain ⟨e1, e2⟩ := take_at f l k (by simpa using hk) (fun t a ht ha => h1 (t + 1) a (by omega) (by simpa using ha)) (fun a ha => h2 a (by simpa using ha))
  simp [hx, e1, e2]
def pos (ns : List Int) (x : Int) : Nat := (ns.takeWhile (fun y => decide (y < x))).length
theorem pos_le (ns : List Int) (x : Int) : pos ns x ≤ ns.length := by
 unfold pos
 exact (List.takeWhile_sublist _).length_le
theorem pos_of {ns : List Int} {x : Int} {k : Nat} (hk : k ≤ ns.length) (h1 : ∀ t a, t < k → ns[t]? = some a → a < x) (h2 : ∀ a, ns[k]? = some a → x ≤ a) : pos ns x = k := by
 unfold pos
 rw [(take_at _ ns k hk (fun t a ht ha => by simpa using h1 t a ht ha) (fun a ha => by simpa using h2 a ha)).1, List.length_take]
 omega
theorem pos_cut (ns : List Int) (x : Int) : (∀ t a, t < pos ns x → ns[t]? = some a → a < x) ∧ (∀ a, ns[pos ns x]? = some a → x ≤ a) := by
 unfold pos
 induction ns with
 | nil => simp
 | cons y l ih =>
  rw [List.takeWhile_cons]
  by_cases h : y < x
  ·simp only [h, decide_true, if_true, List.length_cons]
   refine ⟨fun t a ht ha => ?_, fun a ha => ?_⟩
   ·rcases t with _ | t
    ·simp at ha; omega
    ·exact ih.1 t a (by omega) (by simpa using ha)
   ·exact ih.2 a (by simpa using ha)
  ·simp only [h, decide_false, Bool.false_eq_true, if_false, List.length_nil]
   refine ⟨fun t a ht _ => by omega, fun a ha => ?_⟩
   simp at ha; omega
theorem insI_pos (l : List Int) (x : Int) : AM.insI l x = l.take (pos l x) ++ x :: l.drop (pos l x) := by
 obtain ⟨h1, h2⟩ := pos_cut l x
 obtain ⟨e1, e2⟩ := take_at (fun y => decide (y < x)) l (pos l x) (pos_le l x) (fun t a ht ha => by simpa using h1 t a ht ha) (fun a ha => by simpa using h2 a ha)
 unfold AM.insI
 rw [e1, e2]
theorem nodes_at {l : List AM.Pr} {t : Nat} {a : AM.Pr} (h : l[t]? = some a) : (AM.nodes l)[t]? = some a.n := by simp [AM.nodes, List.getElem?_map, h]
theorem insP_pos (l : List AM.Pr) (p : AM.Pr) : AM.insP l p = l.take (pos (AM.nodes l) p.n) ++ p :: l.drop (pos (AM.nodes l) p.n) := by
 obtain ⟨h1, h2⟩ := pos_cut (AM.nodes l) p.n
 obtain ⟨e1, e2⟩ := take_at (fun q : AM.Pr => decide (q.n < p.n)) l (pos (AM.nodes l) p.n) (by have := pos_le (AM.nodes l) p.n; rwa [AM.nodes_length] at this)
  (fun t a ht ha => by simpa using h1 t a.n ht (nodes_at ha)) (fun a ha => by simpa using h2 a.n (nodes_at ha))
 unfold AM.insP
 rw [e1, e2]
theorem has_pos {ns : List Int} {x : Int} (h : QM.rise (-1) ns = true) : QM.has ns x = true ↔ ns[pos ns x]? = some x := by
 unfold QM.has
 rw [decide_eq_true_iff]
 obtain ⟨h1, h2⟩ := pos_cut ns x
 constructor
 ·intro hm
  obtain ⟨i, hi, e⟩ := List.getElem_of_mem hm
  have he : ns[i]? = some x := by rw [List.getElem?_eq_getElem hi, e]
  rcases Nat.lt_trichotomy i (pos ns x) with hlt | heq | hgt
  ·have := h1 i x hlt he; omega
  ·rw [← heq]; exact he
  ·have hp : pos ns x < ns.length := by omega
   have h3 := rise_lt_at h (pos ns x) i _ _ hgt (List.getElem?_eq_getElem hp) he
   have h4 := h2 _ (List.getElem?_eq_getElem hp)
   omega
 ·exact fun h => List.mem_of_getElem? h
def PlaceRet (k : Nat) (b : Bool) (w : World) (e : Ending) (w' : World) : Prop := e = .returned (.tuple #[.int .i64 k, .bool b]) ∧ Below w.heap.size w w'
set_option maxRecDepth 100000 in
set_option maxHeartbeats 2000000 in
theorem place_any (A : Option Addr) (n c : Nat) (ns : List Int) (x : Int) (w : World) (hr : Rd w A n (ic ns)) (hn : n ≤ 2000) (h : QM.rise (-1) ns = true) :
  Calls Tryz.prog 109 #[.slice A n c, .int .i64 x] w (PlaceRet (pos ns x) (QM.has ns x) w) := by
 have hl : ns.length = n := by have := hr.1; rwa [ic_length] at this
 obtain ⟨W0, hW0⟩ : ∃ W0, W0 = (w.alloc (.cells #[.slice A n c] 22)).alloc (.cells #[.int .i64 x] 3) := ⟨_, rfl⟩
 have hb0 : Below w.heap.size w W0 := by rw [hW0]; exact ((Below.refl _ _).alloc n! _).alloc (by simp) _
 have hx0 : W0.cell? ⟨w.heap.size, 0, none⟩ = some (.slice A n c) := by rw [hW0]; exact ((Box.new _ _ _).alloc _).cell 0
 have hx1 : W0.cell? ⟨w.heap.size + 1, 0, none⟩ = some (.int .i64 x) := by rw [hW0]; exact (Box.new_at _ (by simp)).cell 0
 have hr0 := hr.below hb0
 have hz : ∀ i, i < n → ∃ bl o, A = some ⟨bl, o, none⟩ ∧ W0.cell? ⟨bl, o + i, none⟩ = some (.int .i64 (ns.getD i 0)) := by
  intro i hi
  obtain ⟨ad, u, e, _, hu, hc⟩ := hr0.at_ hi
  rw [ic_get ns i (by omega)] at hu
  injection hu with hu
  subst hu
  have hsp : ad.spot = none := by
   obtain ⟨ad', u', e', _, _, hc'⟩ := hr0.at_ (show 0 < n by omega)
   rw [e] at e'
   injection e' with e'
   subst e'
   have := World.cell?_spot hc'
   simpa [Addr.add] using this
  obtain ⟨bl, o, sp⟩ := ad
  simp only at hsp
  subst hsp
  refine ⟨bl, o, e, ?_⟩
  rw [← (show (⟨bl, o, none⟩ : Addr).add i = ⟨bl, o + i, none⟩ by unfold Addr.add; split <;> simp_all), hc]
  simp [List.getD_eq_getElem?_getD, List.getElem?_eq_getElem (show i < ns.length by omega)]
 have hmono : ∀ a b, a ≤ b → b < n → decide (x ≤ ns.getD a 0) = true → decide (x ≤ ns.getD b 0) = true := by
  intro a b hab hb h1
  rcases Nat.lt_or_ge a b with hlt | hge
  ·have := rise_lt_at h a b _ _ hlt (List.getElem?_eq_getElem (by omega)) (List.getElem?_eq_getElem (by omega))
   simp [List.getD_eq_getElem?_getD, List.getElem?_eq_getElem (show a < ns.length by omega), List.getElem?_eq_getElem (show b < ns.length by omega)] at h1 ⊢
   omega
  ·obtain rfl : a = b := by omega
   exact h1
 have hs := search_any #[.pointer (some ⟨w.heap.size, 0, none⟩), .pointer (some ⟨w.heap.size + 1, 0, none⟩)] n (fun i => decide (x ≤ ns.getD i 0)) W0 hn (by
  intro q i hi
  obtain ⟨bl, o, rfl, hc⟩ := hz i hi
  exact clo_any _ _ bl o n c x _ i (W0.drewN q) hi hx0 hx1 hc) hmono
 obtain ⟨k0, hk0⟩ : ∃ k0, k0 = pos ns x := ⟨_, rfl⟩
 obtain ⟨r, hr1⟩ : ∃ r, r = QM.has ns x := ⟨_, rfl⟩
 have HH := h! (has_pos (x := x) h)
 rw [← hk0, ← hr1] at HH
 rw [← hk0, ← hr1]
 have HP := h! (fun k (hb : Bound (fun i => decide (x ≤ ns.getD i 0)) n k k) (hk : k ≤ n) => (pos_of (ns := ns) (x := x) (k := k) (by omega) (fun t a ht ha => by
   have := hb.1 t ht
   simpa [List.getD_eq_getElem?_getD, ha] using this) (fun a ha => by
   have hkn : k < n := by have := (List.getElem?_eq_some_iff.1 ha).1; omega
   have := hb.2 k n! hkn
   simpa [List.getD_eq_getElem?_getD, ha] using this) : pos ns x = k))
 have HS := h! hs
 have HZ := h! hz
 have HL := h! hl
 have HB0 := h! hb0
 clear hs hz hmono hr0 hr h hl hb0 hr1
 rw [← hk0] at HP
 clear hk0
 have hmf : ∀ (fn : Fn) (first cap : Array Value) (w : World), (Instr.makeFunc fn first cap).run Tryz.prog w = .ok (.func fn first cap) w := fun _ _ _ _ => rfl
 go_enter Tryz.func109, Tryz.ntmps109
 go_wp2_with fail
 rw [← hW0]
 clear hW0
 refine HS.out.mono ?_
 rintro e w1 ⟨k, q, hk, hb, rfl, rfl⟩
 have hp := (HP.out k hb hk).symm
 have hh := HH.out
 subst hp
 have HHH := h! hh
 clear hb hh
 by_cases hkn : k < n
 ·obtain ⟨bl, o, rfl, hc⟩ := HZ.out k hkn
  have hk0 : (0 : Int) ≤ (k : Int) := by omega
  have hkn' : (k : Int) < (n : Int) := by omega
  have t1 : decide ((k : Int) < (n : Int)) = true := by simp; omega
  have t2 : decide (k < n) = true := by simp; omega
  have hg : ns[k]? = some (ns.getD k 0) := by simp [List.getD_eq_getElem?_getD, List.getElem?_eq_getElem (show k < ns.length by have := HL.out; omega)]
  obtain ⟨z, hz⟩ : ∃ z, z = ns.getD k 0 := ⟨_, rfl⟩
  rw [← hz] at hc hg
  have he : (z == x) = r := by
   have := HHH.out
   rw [hg] at this
   rw [Bool.eq_iff_iff, this]
   simp
  have HE := h! he
  clear hz hg he
  go_wp2_with fail
  go_quiet (fail)
  go_wp2_with fail
  go_ret2
  exact ⟨by rw [← HE.out]; rfl, below_drewN (below_drewN HB0.out _) _⟩
 ·have t1 : decide ((k : Int) < (n : Int)) = false := by simp; omega
  have t2 : decide (k < n) = false := by simp; omega
  have he : false = r := by
   rcases r with _ | _
   ·rfl
   ·have := HHH.out.1 rfl
    rw [List.getElem?_eq_none (by have := HL.out; omega)] at this
    cases this
  subst he
  go_wp2_with fail
  go_quiet (fail)
  go_wp2_with fail
  go_ret2
  exact ⟨rfl, below_drewN (below_drewN HB0.out _) _⟩
end Go.Proofs.YtiiobafcgdelmaaGreat
namespace Go.Proofs.YtiiobafcgdelmaaGreat
open Go.RowKit
theorem insI_any (base n c i vb : Nat) (A : Option Addr) (xs vs : List Value) (w : World) (hi : i ≤ n) (hn : n ≤ 2000) (hbase : base ≤ w.heap.size) (ho : w.ownsRow base 3 1 (.slice A n c) n xs)
  (hv : Box w vb 3 vs.toArray) (hvl : vs.length = 1) (hvb : Value.ownBlock (.slice A n c) ≠ some vb) (h1 : ∀ u ∈ xs, u.oneCell' = true) (h1v : ∀ u ∈ vs, u.oneCell' = true) :
  Calls Tryz.prog 113 #[.slice A n c, .int .i64 i, .slice (some ⟨vb, 0, none⟩) 1 1] w (InsIs base 3 1 n (xs.take (i) ++ vs ++ xs.drop (i)) (Value.ownBlock (.slice A n c)) w) := by
 have hl := ho.1
 have hform := own_form ho
 obtain ⟨_, _, e, hnc, hcm⟩ := hform
 injection e with e1 e2 e3
 subst e3
 by_cases hin : i = n
 ·subst hin
  rw [List.take_of_length_le (by omega), List.drop_eq_nil_of_le (by omega), List.append_nil]
  exact insI_end base i c vb A xs vs w hn hnc hcm hbase ho hv hvl h1v
 ·have hlt : i < n := by omega
  rcases ho.2 with ⟨_, h0⟩ | ⟨g, cap, cur, hs, hb, hx, hnc', hcm', hsz, htk⟩
  ·omega
  ·injection hs with e1 e2 e3
   subst e1
   subst e3
   by_cases hroom : n + 1 ≤ c
   ·exact insI_shift base g n c i vb xs vs cur w hlt hn hroom hcm hb hx hsz htk hl hv hvl (by intro h; apply hvb; rw [h]; rfl) h1 h1v
   ·obtain rfl : n = c := by omega
    exact insI_grow base g n i vb xs vs cur w hlt hn hbase hx htk hl hv hvl h1 h1v
theorem insP_any (base n c i vb : Nat) (A : Option Addr) (xs vs : List Value) (w : World) (hi : i ≤ n) (hn : n ≤ 2000) (hbase : base ≤ w.heap.size) (ho : w.ownsRow base 86 3 (.slice A n c) n xs)
  (hv : Box w vb 86 vs.toArray) (hvl : vs.length = 3) (hvb : Value.ownBlock (.slice A n c) ≠ some vb) (h1 : ∀ u ∈ xs, u.oneCell' = true) (h1v : ∀ u ∈ vs, u.oneCell' = true) :
  Calls Tryz.prog 111 #[.slice A n c, .int .i64 i, .slice (some ⟨vb, 0, none⟩) 1 1] w (InsIs base 86 3 n (xs.take (i * 3) ++ vs ++ xs.drop (i * 3)) (Value.ownBlock (.slice A n c)) w) := by
 have hl := ho.1
 have hform := own_form ho
 obtain ⟨_, _, e, hnc, hcm⟩ := hform
 injection e with e1 e2 e3
 subst e3
 by_cases hin : i = n
 ·subst hin
  rw [List.take_of_length_le (by omega), List.drop_eq_nil_of_le (by omega), List.append_nil]
  exact insP_end base i c vb A xs vs w hn hnc hcm hbase ho hv hvl h1v
 ·have hlt : i < n := by omega
  rcases ho.2 with ⟨_, h0⟩ | ⟨g, cap, cur, hs, hb, hx, hnc', hcm', hsz, htk⟩
  ·omega
  ·injection hs with e1 e2 e3
   subst e1
   subst e3
   by_cases hroom : n + 1 ≤ c
   ·exact insP_shift base g n c i vb xs vs cur w hlt hn hroom hcm hb hx hsz htk hl hv hvl (by intro h; apply hvb; rw [h]; rfl) h1 h1v
   ·obtain rfl : n = c := by omega
    exact insP_grow base g n i vb xs vs cur w hlt hn hbase hx htk hl hv hvl h1 h1v
theorem insI_at (base n c vb : Nat) (A : Option Addr) (zs : List Int) (x : Int) (w : World) (hn : n ≤ 2000) (hbase : base ≤ w.heap.size) (ho : w.ownsRow base 3 1 (.slice A n c) n (ic zs))
  (hv : Box w vb 3 #[.int .i64 x]) (hvb : Value.ownBlock (.slice A n c) ≠ some vb) :
  Calls Tryz.prog 113 #[.slice A n c, .int .i64 (pos zs x : Nat), .slice (some ⟨vb, 0, none⟩) 1 1] w (InsIs base 3 1 n (ic (AM.insI zs x)) (Value.ownBlock (.slice A n c)) w) := by
 have hl : zs.length = n := by have := ho.1; rw [ic_length] at this; omega
 have h := insI_any base n c (pos zs x) vb A (ic zs) [.int .i64 x] w (by have := pos_le zs x; omega) hn hbase ho hv rfl hvb (ic_one _) (by intro u hu; simp at hu; subst hu; rfl)
 rw [insI_pos, ic_append, ← ic_take]
 rw [ic_drop, show [Value.int IntKind.i64 x] = ic [x] from rfl, List.append_assoc, ← ic_append] at h
 exact h
theorem insP_at (base n c vb : Nat) (A : Option Addr) (ps : List AM.Pr) (p : AM.Pr) (w : World) (hn : n ≤ 2000) (hbase : base ≤ w.heap.size) (ho : w.ownsRow base 86 3 (.slice A n c) n (pp ps))
  (hv : Box w vb 86 #[.int .i64 p.n, .int .i64 p.b, .string p.v]) (hvb : Value.ownBlock (.slice A n c) ≠ some vb) :
  Calls Tryz.prog 111 #[.slice A n c, .int .i64 (pos (AM.nodes ps) p.n : Nat), .slice (some ⟨vb, 0, none⟩) 1 1] w (InsIs base 86 3 n (pp (AM.insP ps p)) (Value.ownBlock (.slice A n c)) w) := by
 have hl : ps.length = n := by have := ho.1; rw [pp_length] at this; omega
 have h := insP_any base n c (pos (AM.nodes ps) p.n) vb A (pp ps) [.int .i64 p.n, .int .i64 p.b, .string p.v] w (by have := pos_le (AM.nodes ps) p.n; rw [AM.nodes_length] at this; omega) hn hbase ho hv rfl hvb (pp_one _) (by intro u hu; simp at hu; rcases hu with rfl | rfl | rfl <;> rfl)
 rw [insP_pos, pp_append, ← pp_take]
 rw [pp_drop, show [Value.int IntKind.i64 p.n, .int .i64 p.b, .string p.v] = pp [p] from rfl, List.append_assoc, ← pp_append] at h
 exact h
set_option maxRecDepth 100000 in
set_option maxHeartbeats 2000000 in
theorem acheck_any (v : Value) (a : AM.At) (w : World) (H : AtIs w v a) (F : Fit a) :
  Calls Tryz.prog 91 #[v] w (IntIs (if AM.may a = true then 0 else 8) w) := by
 have hm := AM.begun_may a
 have H' := h! H
 have F' := h! F
 obtain ⟨A, n, c, B, m, d, C, k, f, rfl, h1, h2, h3⟩ := H
 obtain ⟨ph, ba, ms, wi, va, ps, ac⟩ := a
 simp only at h1 h2 h3 ⊢
 have hb0 : Below w.heap.size w (w.alloc (.cells #[.int .u8 ph, .int .i64 ba, .slice A n c, .string wi, .string va, .slice B m d, .slice C k f] 57)) := b!
 have HB0 := h! hb0
 have X0 := h! (Box.new w 57 #[.int .u8 ph, .int .i64 ba, .slice A n c, .string wi, .string va, .slice B m d, .slice C k f])
 have HS := h! (same_any _ _ _ AM.zero _ (H'.out.below hb0) (AtIs.zero _) F'.out fit_zero)
 have HG := h! (fun (W : World) (hb : Below w.heap.size w W) => isBegun_any _ _ W (H'.out.below hb) F'.out)
 generalize decide ((⟨ph, ba, ms, wi, va, ps, ac⟩ : AM.At) = AM.zero) = z at hm HS
 generalize AM.begun ⟨ph, ba, ms, wi, va, ps, ac⟩ = g at hm HG
 generalize AM.may ⟨ph, ba, ms, wi, va, ps, ac⟩ = r at hm ⊢
 obtain ⟨y, hy⟩ : ∃ y : Int, y = (if r = true then 0 else 8) := ⟨_, rfl⟩
 rw [← hy]
 rw [← hm] at hy
 have HM := h! hy
 clear hm hy hb0 h1 h2 h3 F' H' F
 go_enter Tryz.func91, Tryz.ntmps91
 go_wp2_with fail
 refine HS.out.mono ?_
 rintro e w1 ⟨rfl, hb1⟩
 have HB1 := h! (bmore HB0.out hb1 n!)
 obtain ⟨⟨t0, t1, t2, t3, t4, t5, t6⟩, _⟩ := (X0.out.below hb1 X0.out.lt).seven
 clear hb1 X0 HB0 HS
 cases z
 ·go_wp2_with fail
  refine (HG.out _ HB1.out).mono ?_
  rintro e w2 ⟨rfl, hb2⟩
  have HB2 := h! (bmore HB1.out hb2 n!)
  clear hb2 HB1 t0 t1 t2 t3 t4 t5 t6
  cases g
  ·go_wp2_with fail
   go_ret
   exact ⟨by rw [HM.out]; rfl, HB2.out⟩
  ·go_wp2_with fail
   go_ret
   exact ⟨by rw [HM.out]; rfl, HB2.out⟩
 ·go_wp2_with fail
  go_ret
  exact ⟨by rw [HM.out]; simp, HB1.out⟩
def ErrRet (a : AM.At) (y : Int) (w : World) (e : Ending) (w' : World) : Prop := ∃ v, e = .returned (.tuple #[v, .int .i64 y]) ∧ AtOwn w' w.heap.size v a ∧ Below w.heap.size w w'
theorem onward_ms (a : AM.At) : (AM.onward a).ms = a.ms := by unfold AM.onward; repeat (first | rfl | split)
theorem onward_ps (a : AM.At) : (AM.onward a).ps = a.ps := by unfold AM.onward; repeat (first | rfl | split)
theorem onward_ac (a : AM.At) : (AM.onward a).ac = a.ac := by unfold AM.onward; repeat (first | rfl | split)
theorem may_ok {a : AM.At} (h : AM.may a = true) (h0 : ¬ a.ph = 0) : AM.okL a = true := by
 unfold AM.may at h
 rw [if_neg h0] at h
 simp only [Bool.and_eq_true] at h
 exact h.2.1
theorem okL_rise {a : AM.At} (h : AM.okL a = true) : QM.may a.ms = true ∧ QM.rise (-1) (AM.nodes a.ps) = true ∧ QM.rise (-1) a.ac = true ∧ a.ps.length ≤ 6 ∧ a.ac.length ≤ 6 := by
 have h1 := AM.okL_may h
 rw [okL_parts] at h
 simp only [Bool.and_eq_true] at h
 have := AM.some_len h.2.2.1
 rw [AM.nodes_length] at this
 exact ⟨h1, AM.some_rise h.2.2.1, AM.some_rise h.2.2.2, this, AM.some_len h.2.2.2⟩
theorem own_apart {w : World} {b1 b2 s1 s2 n1 n2 : Nat} {e1 e2 : TypeId} {v1 v2 : Value} {x1 x2 : List Value} (h1 : w.ownsRow b1 e1 s1 v1 n1 x1) (h2 : w.ownsRow b2 e2 s2 v2 n2 x2) (he : e1 ≠ e2) : ∀ g, v1.ownBlock = some g → some g ≠ v2.ownBlock := by
 intro g hg hh
 obtain ⟨_, c1, k1⟩ := own_block h1 hg
 obtain ⟨_, c2, k2⟩ := own_block h2 hh.symm
 rw [Box] at k1 k2
 rw [k1] at k2
 injection k2 with k2
 injection k2 with _ k2
 exact he k2
theorem insP_len (l : List AM.Pr) (p : AM.Pr) : (AM.insP l p).length = l.length + 1 := by
 rw [insP_pos]; simp
 have := pos_le (AM.nodes l) p.n
 rw [AM.nodes_length] at this
 omega
theorem insI_len (l : List Int) (x : Int) : (AM.insI l x).length = l.length + 1 := by
 rw [insI_pos]; simp
 have := pos_le l x
 omega
end Go.Proofs.YtiiobafcgdelmaaGreat
