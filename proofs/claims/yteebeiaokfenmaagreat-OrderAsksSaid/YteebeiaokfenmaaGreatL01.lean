/- Contracts of functions, L01: each as its theorem says. -/
import Derived.Deep.RegionHeld3
import Derived.Deep.RegionHeld
import Derived.WalkKit
import Derived.IntWalk
import Derived.Lib.Hide
import Derived.Below
import Derived.Laws.OwnMore
import Derived.Laws.AppendOwnNone
import Derived.Deep.AppendLies
import Derived.Deep.Draws
import Derived.Maps.AppendAt
import Derived.Laws.IdiomStrings
import Derived.Lib.AppendStr
import Derived.Lib.BufferRead
import Derived.Lib.BitFns
import Derived.Laws.BitsLemmas
import Derived.Test.YteebeiaokfenmaaGreatProg
import Derived.Shelf.Sort.Plain
import Derived.Shelf.Slices.CompactI
import Derived.Test.YteebeiaokfenmaaGreatRows
import Derived.Lib.SmallJoins
import Derived.OpenShut
import Derived.Deep.Slices
import Derived.Deep.Fields
import Derived.ChangeSame
set_option linter.unusedVariables false
set_option linter.unusedSimpArgs false
set_option maxRecDepth 100000
set_option maxHeartbeats 16000000
namespace Go.Proofs.YteebeiaokfenmaaGreat
section
open Go.RowKit
theorem h! {p : Prop} (h : p) : Hid p := Lib.hid h
theorem n! {n : Nat} : n ≤ n := Nat.le_refl n
theorem b! {w : World} {o : Obj} : Below w.heap.size w (w.alloc o) := (Below.refl _ _).alloc (Nat.le_refl _) _
theorem qq : (∀ {α : Type} (l : List α) (i : Nat) (a : α), l.toArray.setIfInBounds i a = (l.set i a).toArray) ∧ (∀ {α : Type} (x : α) (xs : List α) (a : α), (x :: xs).set 0 a = a :: xs) ∧
    (∀ {α : Type} (x : α) (xs : List α) (n : Nat) (a : α), (x :: xs).set (n + 1) a = x :: xs.set n a) ∧ (∀ {α : Type} {xs : List α} {i : Nat} (h : i < xs.toArray.size), xs.toArray[i] = xs[i]'(by simpa using h)) ∧
    (∀ {α : Type} (a : α) (az : List α) (h : 0 < (a :: az).length), (a :: az)[0] = a) ∧ (∀ {α : Type} (a : α) (az : List α) (i : Nat) (h : i + 1 < (a :: az).length), (a :: az)[i + 1] = az[i]'(Nat.lt_of_succ_lt_succ h)) :=
  ⟨fun _ _ _ => List.setIfInBounds_toArray .., fun _ _ _ => rfl, fun _ _ _ _ => rfl, fun _ => rfl, fun _ _ _ => rfl, fun _ _ _ _ => rfl⟩
section
variable {P : Program} {ops : Array Oper} {Q : Exit → Act → World → Prop} {md : Region.Mode} {S : World → Prop} {oi : Oper} {v : Value} {fuel : Nat} {listed : Array Bool} {a : Act} {w : World}
theorem qT (i : Nat) (h : wpAnyH P md ops Q S fuel (listed.setIfInBounds i true) (a.put oi.dst v) w) (hi : ops[i]? = some oi := by rfl)
    (hs : Region.noSelect ops = true := by kernel_rfl) (hf : Region.free md ops listed i = true := by kernel_rfl) (hr : (Region.ready md ops listed).contains i = true := by kernel_rfl)
    (hy : YieldsIf P ops S oi v a := by exact Or.inl ⟨by rfl, by intro w' hSw; (try dsimp only at hSw); go_simp; all_goals (with_reducible rfl)⟩)
    (hQ : ∀ c a w, Q (.panic c) (a.put oi.dst v) w → Q (.panic c) a w := by exact fun _ _ _ h => h) (hS : S w := by assumption) : wpAnyH P md ops Q S (fuel + 1) listed a w :=
  wpAnyH_take hi hs hf hr hQ hy hS h
theorem qS (i : Nat) (h : wpAnyH P md ops Q S fuel (listed.setIfInBounds i true) (a.put oi.dst undef) w) (hi : ops[i]? = some oi := by rfl)
    (hs : Region.noSelect ops = true := by kernel_rfl) (hf : Region.free md ops listed i = true := by kernel_rfl) (hr : (Region.ready md ops listed).contains i = true := by kernel_rfl)
    (hy : YieldsIf P ops S oi undef a := by exact Or.inr ⟨by rfl, rfl⟩) (hQ : ∀ c a w, Q (.panic c) (a.put oi.dst undef) w → Q (.panic c) a w := by exact fun _ _ _ h => h) (hS : S w := by assumption) : wpAnyH P md ops Q S (fuel + 1) listed a w :=
  wpAnyH_take hi hs hf hr hQ hy hS h
theorem qR (i : Nat) (h : ∀ K' : Act → World → Prop, Shut (∀ a w, S w → (S w → wpAnyH P md ops Q S fuel (listed.setIfInBounds i true) a w) → K' a w) → if Region.wanted oi (yielded ops a.tmps) = true then Oper.wp P oi a w K' Q else K' (a.put oi.dst undef) w)
    (hr : Region.ready md ops listed = [i] := by kernel_rfl) (ho : ops[i]? = some oi := by rfl) : wpAnyH P md ops Q S (fuel + 1) listed a w :=
  wpAnyH_ready hr (by simp) (AllReadyH.cons ho h AllReadyH.nil)
end
theorem block_of_add (a : Addr) (n : Nat) : (a.add n).block = a.block := by unfold Addr.add; split <;> rfl
theorem add_of_add (a : Addr) (i j : Nat) : (a.add i).add j = a.add (i + j) := by
 unfold Addr.add
 by_cases hi : i = 0 <;> by_cases hj : j = 0 <;> simp [hi, hj, Nat.add_assoc]
def bc (l : List UInt8) : List Value := l.map fun b => Value.int .u8 b.toNat
def ic (l : List Int) : List Value := l.map (Value.int .i64)
theorem bc_length (l : List UInt8) : (bc l).length = l.length := by simp [bc]
theorem ic_length (l : List Int) : (ic l).length = l.length := by simp [ic]
theorem bc_append (l r : List UInt8) : bc (l ++ r) = bc l ++ bc r := by simp [bc]
theorem ic_append (l r : List Int) : ic (l ++ r) = ic l ++ ic r := by simp [ic]
theorem bc_one (l : List UInt8) : ∀ u ∈ bc l, u.oneCell' = true := by
 intro u hu
 simp only [bc, List.mem_map] at hu
 obtain ⟨b, _, rfl⟩ := hu
 rfl
theorem ic_one (l : List Int) : ∀ u ∈ ic l, u.oneCell' = true := by
 intro u hu
 simp only [ic, List.mem_map] at hu
 obtain ⟨b, _, rfl⟩ := hu
 rfl
theorem bc_get (l : List UInt8) (k : Nat) (h : k < l.length) : (bc l)[k]? = some (.int .u8 (l[k].toNat : Int)) := by simp [bc, h]
theorem ic_get (l : List Int) (k : Nat) (h : k < l.length) : (ic l)[k]? = some (.int .i64 l[k]) := by simp [ic, h]
theorem bc_drop (l : List UInt8) (k : Nat) : (bc l).drop k = bc (l.drop k) := by simp [bc]
theorem bc_take (l : List UInt8) (k : Nat) : (bc l).take k = bc (l.take k) := by simp [bc]
theorem bc_str (s : ByteArray) : Lib.strCells s = bc s.data.toList := rfl
def Rd (w : World) (A : Option Addr) (n : Nat) (xs : List Value) : Prop :=
 xs.length = n ∧ (0 < n → ∃ ad, A = some ad ∧ ad.block < w.heap.size ∧ ∀ j u, xs[j]? = some u → w.cell? (ad.add j) = some u)
section
variable {w w' : World} {n : Nat} {A : Option Addr} {xs : List Value}
theorem Rd.nil : Rd w A 0 [] := ⟨rfl, fun h => absurd h (by omega)⟩
theorem Rd.at_ {k : Nat} (h : Rd w A n xs) (hk : k < n) : ∃ ad u, A = some ad ∧ ad.block < w.heap.size ∧ xs[k]? = some u ∧ w.cell? (ad.add k) = some u := by
 obtain ⟨ad, e, hb, hc⟩ := h.2 (by omega)
 have hl : k < xs.length := by have := h.1; omega
 exact ⟨ad, xs[k], e, hb, List.getElem?_eq_getElem hl, hc k _ (List.getElem?_eq_getElem hl)⟩
theorem Rd.below (h : Rd w A n xs) (hb : Below w.heap.size w w') : Rd w' A n xs :=
 ⟨h.1, fun hn => by
  obtain ⟨ad, e, hB, hc⟩ := h.2 hn
  exact ⟨ad, e, Nat.lt_of_lt_of_le hB hb.size, fun j u hu => (hb.cell (by rw [block_of_add]; exact hB)).trans (hc j u hu)⟩⟩
theorem Rd.grown (h : Rd w A n xs) {g : Option Nat} (hg : w.grownBy w' g) (hr : ∀ ad, A = some ad → 0 < n → some ad.block ≠ g) : Rd w' A n xs :=
 ⟨h.1, fun hn => by
  obtain ⟨ad, e, hB, hc⟩ := h.2 hn
  exact ⟨ad, e, Nat.lt_of_lt_of_le hB hg.size, fun j u hu => (World.cell?_of_block (by rw [block_of_add]; exact hg.block ad.block hB (hr ad e hn))).trans (hc j u hu)⟩⟩
theorem Rd.cut (h : Rd w A n xs) {k cap : Nat} (hk : k ≤ n) (hc : n ≤ cap) :
  Rd w (if cap = k then A else A.map (·.add k)) (n - k) (xs.drop k) := by
 refine ⟨by rw [List.length_drop, h.1], fun hn => ?_⟩
 obtain ⟨ad, rfl, hb, hcell⟩ := h.2 (by omega)
 rw [if_neg (by omega)]
 refine ⟨ad.add k, rfl, by rw [block_of_add]; exact hb, fun j u hu => ?_⟩
 rw [add_of_add]
 exact hcell _ u (by rw [← hu, List.getElem?_drop])
theorem Rd.cutm (h : Rd w A n xs) {k : Nat} (hk : k ≤ n) : Rd w (A.map (fun x => x.add k)) (n - k) (xs.drop k) := by
 refine ⟨by rw [List.length_drop, h.1], fun hn => ?_⟩
 obtain ⟨ad, rfl, hb, hcell⟩ := h.2 (by omega)
 refine ⟨ad.add k, rfl, by rw [block_of_add]; exact hb, fun j u hu => ?_⟩
 rw [add_of_add]
 exact hcell _ u (by rw [← hu, List.getElem?_drop])
theorem Rd.front (h : Rd w A n xs) {k : Nat} (hk : k ≤ n) : Rd w A k (xs.take k) := by
 refine ⟨by rw [List.length_take, h.1]; omega, fun hn => ?_⟩
 obtain ⟨ad, e, hb, hcell⟩ := h.2 (by omega)
 refine ⟨ad, e, hb, fun j u hu => hcell j u ?_⟩
 rw [List.getElem?_take] at hu
 split at hu
 ·exact hu
 ·cases hu
theorem Rd.mid (h : Rd w A n xs) {k x : Nat} (hk : k + x ≤ n) : Rd w (A.map (fun x => x.add k)) x ((xs.drop k).take x) := (h.cutm (k := k) (by omega)).front (by omega)
theorem Rd.of_own {base : Nat} {e : TypeId} {c : Nat} (h : w.ownsRow base e 1 (.slice A n c) n xs) : Rd w A n xs := by
 refine ⟨by have := h.1; omega, fun hn => ?_⟩
 obtain ⟨g, cap, hv, _, hlt⟩ := h.form hn
 have hA : A = some ⟨g, 0, none⟩ := by injection hv
 subst hA
 exact ⟨_, rfl, hlt, h.cells (g := g) rfl⟩
end
theorem cell_block {w : World} {a : Addr} {v : Value} (h : w.cell? a = some v) : a.block < w.heap.size := by
 unfold World.cell? at h
 rcases Nat.lt_or_ge a.block w.heap.size with hlt | hge
 ·exact hlt
 ·simp [Array.getElem?_eq_none hge] at h
theorem own_slice {w : World} {base : Nat} {e : TypeId} {v : Value} {n : Nat} {xs : List Value} (h : w.ownsRow base e 1 v n xs) :
  ∃ A c, v = .slice A n c ∧ n ≤ c ∧ c ≤ maxLen := by
 rcases h.2 with ⟨rfl, rfl⟩ | ⟨g, cap, cur, rfl, _, _, hnc, hcm, _⟩
 ·exact ⟨none, 0, rfl, Nat.le_refl _, Nat.zero_le _⟩
 ·exact ⟨_, cap, rfl, hnc, hcm⟩
theorem run_string_of {P : Program} (w : World) (src dst e : TypeId) (A : Option Addr) (n cap : Nat) (l : List UInt8) (hs : P.underlying src = some (.slice e)) (he : P.underlying e = some (.int .u8)) (hd : P.underlying dst = some .string)
  (h : Rd w A n (bc l)) : (convert src dst (.slice A n cap)).run P w = .ok (.string ⟨l.toArray⟩) w := by
 have hl : l.length = n := by have := h.1; rwa [bc_length] at this
 subst hl
 rcases A with _ | a
 ·have hn : l = [] := by
   rcases Nat.eq_zero_or_pos l.length with h0 | h0
   ·exact List.eq_nil_of_length_eq_zero h0
   ·obtain ⟨ad, he, _⟩ := h.2 h0; cases he
  subst hn
  exact Lib.run_convert_nil_bytes w src dst e cap hs he hd
 ·refine run_convert_bytes_back w src dst e a cap l hs he hd fun j hj => ?_
  obtain ⟨ad, e1, _, hc⟩ := h.2 (by omega)
  injection e1 with e1
  subst e1
  exact hc j _ (bc_get l j hj)
theorem run_append_rd {P : Program} (w : World) (base : Nat) (t ty e : TypeId) (i : TypeInfo) (z : Value) (bytes : Nat) (ht : P.underlying t = some (.slice e)) (hi : P.info? e = some i) (hz : i.zero = some z)
  (hsize : i.size = 1) (hby : i.bytes = bytes) (hzs : z.cells.size = 1)
  (v : Value) (n : Nat) (xs : List Value) (hown : w.ownsRow base e 1 v n xs)
  (A : Option Addr) (m c : Nat) (news : List Value) (hr : Rd w A m news) (h1 : ∀ u ∈ news, u.oneCell' = true)
  (h63 : n + m ≤ maxLen) (hbytes : (n + m) * bytes ≤ 140737488355328) (hbase : base ≤ w.heap.size) :
  ∃ v' w', (Builtin.append_ #[t, t] ty #[v, .slice A m c]).run P w = .ok v' w' ∧ w'.ownsRow base e 1 v' (n + m) (xs ++ news) ∧ w.grownBy w' v.ownBlock ∧
   (v'.ownBlock = v.ownBlock ∨ v'.ownBlock = some w.heap.size) := by
 rcases A with _ | ad
 ·have hm : m = 0 := by
   rcases Nat.eq_zero_or_pos m with h0 | h0
   ·exact h0
   ·obtain ⟨ad, h, _⟩ := hr.2 h0; cases h
  subst hm
  have hn : news = [] := List.eq_nil_of_length_eq_zero hr.1
  subst hn
  refine ⟨v, w, ?_, by simpa using hown, World.grownBy.refl w _, .inl rfl⟩
  rcases hown.2 with ⟨rfl, rfl⟩ | ⟨g, cap, cur, rfl, _, _, hnc, _⟩
  ·simp [Builtin.append_, run_underlying ht, sizeOf, typeInfo, hi, Builtin.lenOf, Builtin.firstCells]
  ·simp [Builtin.append_, run_underlying ht, sizeOf, typeInfo, hi, Builtin.lenOf, Builtin.firstCells, hnc, storeCells]
 ·have hcells : ∀ j u, news[j]? = some u → w.cell? (ad.add j) = some u := by
   intro j u hu
   rcases Nat.eq_zero_or_pos m with h0 | h0
   ·subst h0
    have hn : news = [] := List.eq_nil_of_length_eq_zero hr.1
    subst hn
    simp at hu
   ·obtain ⟨ad', h, _, hc⟩ := hr.2 h0
    injection h with h
    subst h
    exact hc j u hu
  obtain ⟨v', w', hrun, h2, h3, _, h5⟩ := run_append_own_at (P := P) w base t ty e i z 1 bytes ht hi hz hsize hby hzs (by omega) v n xs hown ad m c news (by have := hr.1; omega) hcells h1 h63 hbytes hbase
  exact ⟨v', w', hrun, h2, h3, h5⟩
theorem wpList_append_rd {P : Program} (w : World) {ops : Array Oper} {rest : List Oper} {o : Oper} {a : Act} {Q : Exit → Act → World → Prop} (hgd : o.guard = none) (s x : Operand) (t : TypeId)
  (ho : o.op = .call { callee := .builtin .append, args := #[s, x], argTypes := #[t, t] })
  (base : Nat) (e : TypeId) (i : TypeInfo) (z : Value) (bytes : Nat) (ht : P.underlying t = some (.slice e)) (hi : P.info? e = some i) (hz : i.zero = some z)
  (hsize : i.size = 1) (hby : i.bytes = bytes) (hzs : z.cells.size = 1)
  (v : Value) (n : Nat) (xs : List Value) (hs : a.eval s = v) (hown : w.ownsRow base e 1 v n xs)
  (A : Option Addr) (m c : Nat) (news : List Value) (hx : a.eval x = .slice A m c) (hr : Rd w A m news) (h1 : ∀ u ∈ news, u.oneCell' = true)
  (h63 : n + m ≤ maxLen) (hbytes : (n + m) * bytes ≤ 140737488355328) (hbase : base ≤ w.heap.size)
  (h : ∀ v' w', w'.ownsRow base e 1 v' (n + m) (xs ++ news) → w.grownBy w' v.ownBlock → (v'.ownBlock = v.ownBlock ∨ v'.ownBlock = some w.heap.size) → wpList P ops Q rest (a.put o.dst v') w') : wpList P ops Q (o :: rest) a w := by
 refine wpList_plain hgd fun K hK => ?_
 obtain ⟨v', w', hrun, h2, h3, h4⟩ := run_append_rd (P := P) w base t o.type e i z bytes ht hi hz hsize hby hzs v n xs hown A m c news hr h1 h63 hbytes hbase
 unfold Oper.wp execOp
 simp only [ho, resolve, invoke, builtin, Sem.run_bind, Sem.run_pure, Result.andThen_ok, List.map_toArray, List.map_cons, List.map_nil, hs, hx, hrun]
 exact hK _ _ (h v' w' h2 h3 h4)
theorem grown_more {a b c : World} {r s : Option Nat} (h : a.grownBy b r) (k : b.grownBy c s) (hs : s = r ∨ ∀ g, s = some g → a.heap.size ≤ g) : a.grownBy c r :=
 ⟨k.os.trans h.os, k.tape.trans h.tape, k.output.trans h.output, Nat.le_trans h.size k.size, fun i hi hne => (k.block i (Nat.lt_of_lt_of_le hi h.size) (by
  rcases hs with rfl | hs
  ·exact hne
  ·intro e; have := hs i e.symm; omega)).trans (h.block i hi hne)⟩
theorem grown_alloc {a b : World} {r : Option Nat} (h : a.grownBy b r) (o : Obj) : a.grownBy (b.alloc o) r :=
 ⟨h.os, h.tape, h.output, Nat.le_trans h.size (by simp), fun i hi hne => (Below.heap_alloc b o i (Nat.lt_of_lt_of_le hi h.size)).trans (h.block i hi hne)⟩
theorem below_of_grown {a b : World} {r : Option Nat} (h : a.grownBy b r) (hr : ∀ g, r = some g → a.heap.size ≤ g) : Below a.heap.size a b :=
 ⟨h.os, h.tape, h.output, h.size, fun i hi => h.block i hi (fun e => by have := hr i e.symm; omega)⟩
theorem own_snoc {w : World} {base : Nat} {e : TypeId} {v : Value} {len y : Nat} {xs : List Value} {pre : List UInt8} (h : w.ownsRow base e 1 v (len + pre.length + 1) (xs ++ bc pre ++ [.int .u8 (y : Int)])) (hy : (UInt8.ofNat y).toNat = y) :
  w.ownsRow base e 1 v (len + (pre ++ [UInt8.ofNat y]).length) (xs ++ bc (pre ++ [UInt8.ofNat y])) := by
 have e1 : bc (pre ++ [UInt8.ofNat y]) = bc pre ++ [.int .u8 (y : Int)] := by rw [bc_append]; congr 1; simp only [bc, List.map_cons, List.map_nil, hy]
 rw [e1, ← List.append_assoc, List.length_append, ← Nat.add_assoc]
 exact h
theorem ob_more {a b : World} {r s t : Option Nat} (h : s = r ∨ ∀ g, s = some g → a.heap.size ≤ g) (k : t = s ∨ t = some b.heap.size) (hs : a.heap.size ≤ b.heap.size) : t = r ∨ ∀ g, t = some g → a.heap.size ≤ g := by
 rcases k with rfl | rfl
 ·exact h
 ·right; intro g hg; injection hg with hg; omega
theorem below_drewN {B : Nat} {a w : World} (h : Below B a w) (n : Nat) : Below B a (w.drewN n) := ⟨h.os, h.tape, h.output, h.size, h.block⟩
theorem bmore {B : Nat} {a b c : World} (h : Below B a b) (k : Below b.heap.size b c) (hB : B ≤ a.heap.size) : Below B a c := h.trans (k.mono (Nat.le_trans hB h.size))
theorem own_below {w w' : World} {base : Nat} {e : TypeId} {v : Value} {n : Nat} {xs : List Value} (h : w.ownsRow base e 1 v n xs) (hb : Below w.heap.size w w') : w'.ownsRow base e 1 v n xs := by
 refine ⟨h.1, ?_⟩
 rcases h.2 with h0 | ⟨g, cap, cur, hv, hbg, hg, hrest⟩
 ·exact .inl h0
 ·have hlt : g < w.heap.size := by
   rcases Nat.lt_or_ge g w.heap.size with hlt | hge
   ·exact hlt
   ·rw [Array.getElem?_eq_none hge] at hg; cases hg
  exact .inr ⟨g, cap, cur, hv, hbg, (hb.block g hlt).trans hg, hrest⟩
theorem rd_new (w : World) (x : Value) (t : TypeId) : Rd (w.alloc (.cells #[x] t)) (some ⟨w.heap.size, 0, none⟩) 1 [x] := by
 refine ⟨rfl, fun _ => ⟨_, rfl, by simp, fun j u hu => ?_⟩⟩
 match j, hu with
 | 0, hu => simp at hu; subst hu; simp [Addr.add]
end
namespace QM
def rise : Int → List Int → Bool
 | _, [] => true
 | p, x :: l => decide (p < x) && (decide (x < 6) && rise x l)
def may (l : List Int) : Bool := decide (1 ≤ l.length) && (decide (l.length ≤ 6) && rise (-1) l)
def ChkIs (l : List Int) (y : Int) : Prop := (6 < l.length ∧ y = 4) ∨ (l.length ≤ 6 ∧ may l = false ∧ y = 60) ∨ (may l = true ∧ y = 0)
theorem chkIs_ex (l : List Int) : ∃ y, ChkIs l y := by
 by_cases h : 6 < l.length
 ·exact ⟨4, .inl ⟨h, rfl⟩⟩
 ·by_cases hm : may l = true
  ·exact ⟨0, .inr (.inr ⟨hm, rfl⟩)⟩
  ·exact ⟨60, .inr (.inl ⟨by omega, by simpa using hm, rfl⟩)⟩
theorem may_len {l : List Int} (h : may l = true) : 1 ≤ l.length ∧ l.length ≤ 6 ∧ rise (-1) l = true := by
 unfold may at h
 simpa [Bool.and_eq_true] using h
theorem chkIs_cases {l : List Int} {y : Int} (h : ChkIs l y) : (y = 0 ∧ may l = true) ∨ (may l = false ∧ (y = 4 ∨ y = 60)) := by
 rcases h with ⟨h, rfl⟩ | ⟨_, h, rfl⟩ | ⟨h, rfl⟩
 ·refine .inr ⟨?_, .inl rfl⟩
  rcases hm : may l with _ | _
  ·rfl
  ·have := (may_len hm).2.1; omega
 ·exact .inr ⟨h, .inr rfl⟩
 ·exact .inl ⟨rfl, h⟩
def has (l : List Int) (x : Int) : Bool := decide (x ∈ l)
theorem rise_lt : ∀ {p : Int} {l : List Int}, rise p l = true → ∀ x ∈ l, p < x ∧ x < 6
 | _, [], _, x, hx => by simp at hx
 | p, y :: l, h, x, hx => by
  simp only [rise, Bool.and_eq_true, decide_eq_true_eq] at h
  rcases List.mem_cons.1 hx with rfl | hx
  ·exact ⟨h.1, h.2.1⟩
  ·have := rise_lt h.2.2 x hx; omega
end QM
namespace TM
structure Sp where
 t : Int
 i : Int
deriving DecidableEq
instance : Inhabited Sp := ⟨⟨0, 0⟩⟩
def ok (a : Sp) : Prop := 0 ≤ a.t ∧ a.t ≤ 1073741824 ∧ 0 ≤ a.i ∧ a.i < 6291456
instance (a : Sp) : Decidable (ok a) := by unfold ok; exact inferInstance
def chk (a : Sp) : Int := if ok a then 0 else 8
def lt (a b : Sp) : Prop := a.t < b.t ∨ (a.t = b.t ∧ a.i < b.i)
instance (a b : Sp) : Decidable (lt a b) := by unfold lt; exact inferInstance
def less (a b : Sp) : Bool := decide (lt a b)
def Up (l : List Sp) : Prop := ∀ k a b, l[k]? = some a → l[k + 1]? = some b → less a b = true
def rises : List Sp → Bool
 | a :: b :: r => less a b && rises (b :: r)
 | _ => true
theorem rises_iff : ∀ l : List Sp, rises l = true ↔ Up l
 | [] => by simp [rises, Up]
 | [a] => by
  simp only [rises, true_iff]
  intro k x y h1 h2
  have := (List.getElem?_eq_some_iff.1 h2).1
  simp at this
 | a :: b :: r => by
  have ih := rises_iff (b :: r)
  simp only [rises, Bool.and_eq_true, ih]
  constructor
  ·rintro ⟨h0, h⟩ k x y h1 h2
   rcases k with _ | k
   ·simp at h1 h2; subst h1 h2; exact h0
   ·exact h k x y (by simpa using h1) (by simpa using h2)
  ·intro h
   exact ⟨h 0 a b rfl rfl, fun k x y h1 h2 => h (k + 1) x y (by simpa using h1) (by simpa using h2)⟩
theorem less_irrefl (a : Sp) : less a a = false := by simp [less, lt]
theorem less_swap {a b : Sp} (h : a ≠ b) : less b a = !less a b := by
 have h' : a.t ≠ b.t ∨ a.i ≠ b.i := by
  obtain ⟨at_, ai⟩ := a
  obtain ⟨bt, bi⟩ := b
  by_cases e : at_ = bt
  ·right; intro e2; exact h (by simp only at e2; rw [e, e2])
  ·exact .inl e
 by_cases k : lt a b
 ·have : ¬ lt b a := by unfold lt at *; omega
  simp [less, k, this]
 ·have : lt b a := by unfold lt at *; omega
  simp [less, k, this]
def may (s n : Int) : Prop := 0 ≤ s ∧ s < 6 ∧ 0 ≤ n ∧ n < 1048576
instance (s n : Int) : Decidable (may s n) := by unfold may; exact inferInstance
def good (i : Int) : Prop := 0 ≤ i ∧ i < 6291456
instance (i : Int) : Decidable (good i) := by unfold good; exact inferInstance
def OfIs (i s n e : Int) : Prop := (good i ∧ s = i / 1048576 ∧ n = i % 1048576 ∧ e = 0) ∨ (¬ good i ∧ s = 0 ∧ n = 0 ∧ e = 2)
theorem ofIs_ex (i : Int) : ∃ s n e, OfIs i s n e := by
 by_cases h : good i
 ·exact ⟨_, _, _, .inl ⟨h, rfl, rfl, rfl⟩⟩
 ·exact ⟨_, _, _, .inr ⟨h, rfl, rfl, rfl⟩⟩
theorem good_iff (i : Int) (h : 0 ≤ i) : good i ↔ may (i / 1048576) (i % 1048576) := by unfold good may; omega
def cmpI (a b : Int) : Int := if a < b then -1 else if b < a then 1 else 0
def orI (z y : Int) : Int := if z ≠ 0 then z else y
theorem less_cmp (a b : Sp) : decide (orI (cmpI a.t b.t) (cmpI a.i b.i) < 0) = less a b := by
 unfold less
 congr 1
 unfold orI cmpI lt
 apply propext
 split <;> split <;> (try split) <;> (try split) <;> omega
end TM
namespace NB
theorem wraps63 (n : Int) (h₀ : 0 ≤ n) (h₁ : n < 2 ^ 63) : IntKind.i64.wrap n = n := by rw [IntKind.wrap_i64]; omega
theorem and127 (m : Nat) (h : m < 9223372036854775808) : bits .and .i64 (m : Int) 127 = ((m % 128 : Nat) : Int) := by
 have e := bits_mask .i64 63 (by decide) wraps63 7 (by decide) (m : Int) (by omega) (by omega)
 have e1 : ((2 : Int) ^ 7 - 1) = 127 := by decide
 have e2 : ((2 : Int) ^ 7) = 128 := by decide
 rw [e1, e2] at e
 rw [e]; omega
theorem or128 (x : Nat) (h : x < 128) : bits .or .i64 (x : Int) 128 = ((x + 128 : Nat) : Int) := by
 have e := (bits_nat .i64 63 (by decide) wraps63 x 128 (by omega) (by decide)).2
 rw [show ((128 : Nat) : Int) = 128 from rfl] at e
 rw [e]
 congr 1
 have := Nat.two_pow_add_eq_or_of_lt (i := 7) (b := x) (by omega) 1
 rw [Nat.or_comm]
 simp only [Nat.reducePow, Nat.mul_one] at this
 omega
theorem and128 (x : Nat) (h : x < 256) : bits .and .i64 (x : Int) 128 = if x < 128 then 0 else 128 := by
 have e := (bits_nat .i64 63 (by decide) wraps63 x 128 (by omega) (by decide)).1
 rw [show ((128 : Nat) : Int) = 128 from rfl] at e
 rw [e]
 have h2 : ∀ y : Fin 256, ((y.val &&& 128 : Nat) : Int) = if y.val < 128 then 0 else 128 := by decide +kernel
 exact h2 ⟨x, h⟩
theorem or_add (a b k : Nat) (ha : a < 128 ^ k) (hb : b < 128) (hk : k < 6) : bits .or .i64 (a : Int) ((128 ^ k * b : Nat) : Int) = ((a + 128 ^ k * b : Nat) : Int) := by
 have hp : 128 ^ k = 2 ^ (7 * k) := by rw [Nat.pow_mul]
 have hle : (128 : Nat) ^ k ≤ 128 ^ 5 := Nat.pow_le_pow_right (by omega) (by omega)
 have hm : 128 ^ k * b < 9223372036854775808 := by
  have : 128 ^ k * b ≤ 128 ^ 5 * 127 := Nat.mul_le_mul hle (by omega)
  omega
 have e := (bits_nat .i64 63 (by decide) wraps63 a (128 ^ k * b) (by omega) (by omega)).2
 rw [e]
 congr 1
 rw [hp] at ha ⊢
 rw [Nat.or_comm, ← Nat.two_pow_add_eq_or_of_lt ha]
 omega
theorem shl_wrap (x k : Nat) (hx : x < 128) (hk : k < 6) : RowKit.wrap64 ((x : Int) * 2 ^ (7 * k)) = ((128 ^ k * x : Nat) : Int) := by
 have hp : (128 : Nat) ^ k = 2 ^ (7 * k) := by rw [Nat.pow_mul]
 have hle : (128 : Nat) ^ k ≤ 128 ^ 5 := Nat.pow_le_pow_right (by omega) (by omega)
 have hm : 128 ^ k * x < 9223372036854775808 := by
  have : 128 ^ k * x ≤ 128 ^ 5 * 127 := Nat.mul_le_mul hle (by omega)
  omega
 have e : ((x : Int) * 2 ^ (7 * k)) = ((128 ^ k * x : Nat) : Int) := by
  rw [hp]; push_cast; exact Int.mul_comm _ _
 rw [e, IntWalk.wrap64_in _ ⟨by omega, by omega⟩]
theorem mul_wrap (x k : Nat) (hx : x < 128) (hk : k < 6) : RowKit.wrap64 ((x : Int) * ((128 ^ k : Nat) : Int)) = ((128 ^ k * x : Nat) : Int) := by
 have hle : (128 : Nat) ^ k ≤ 128 ^ 5 := Nat.pow_le_pow_right (by omega) (by omega)
 have hm : 128 ^ k * x < 9223372036854775808 := by
  have : 128 ^ k * x ≤ 128 ^ 5 * 127 := Nat.mul_le_mul hle (by omega)
  omega
 generalize 128 ^ k = U at hm
 have e : ((x : Int) * (U : Int)) = ((U * x : Nat) : Int) := by push_cast; exact Int.mul_comm _ _
 rw [e, IntWalk.wrap64_in _ ⟨by omega, by omega⟩]
theorem neq128 (p : Nat) (h : p < 256) : (bits .and .i64 (p : Int) 128 != 0) = decide (128 ≤ p) := by
 rw [and128 p h]
 by_cases hp : p < 128
 ·rw [if_pos hp]; simp; omega
 ·rw [if_neg hp]; simp; omega
end NB
namespace KP
open Go.Shelf
def laySort_ren : Go.Shelf.Ren := ⟨fun | 189 => 149 | 125 => 164 | 257 => 163 | 128 => 179 | 129 => 180 | 294 => 170 | 295 => 171 | 296 => 172 | 297 => 173 | 298 => 174 | 299 => 175 | 216 => 176 | 300 => 177 | 301 => 178 | 328 => 182 | 329 => 183 | 330 => 184 | 331 => 185 | 332 => 186 | 215 => 99 | 343 => 187 | n => n, fun | 28 => 31 | 3 => 3 | 46 => 176 | 0 => 0 | 51 => 237 | 53 => 239 | 4 => 4 | 183 => 231 | 182 => 230 | 131 => 84 | 5 => 5 | 9 => 9 | 218 => 241 | 222 => 245 | 228 => 247 | 229 => 226 | n => n, fun | n => n⟩
theorem laySort : Go.Proofs.Lays.n189 Tryz.prog laySort_ren := {
 mixed := by kernel_rfl
 f125 := Tryz.func164.trans (congrArg some (by kernel_rfl))
 f128 := Tryz.func179.trans (congrArg some (by kernel_rfl))
 f129 := Tryz.func180.trans (congrArg some (by kernel_rfl))
 f189 := Tryz.func149.trans (congrArg some (by kernel_rfl))
 f215 := Tryz.func99.trans (congrArg some (by kernel_rfl))
 f216 := Tryz.func176.trans (congrArg some (by kernel_rfl))
 f257 := Tryz.func163.trans (congrArg some (by kernel_rfl))
 f294 := Tryz.func170.trans (congrArg some (by kernel_rfl))
 f295 := Tryz.func171.trans (congrArg some (by kernel_rfl))
 f296 := Tryz.func172.trans (congrArg some (by kernel_rfl))
 f297 := Tryz.func173.trans (congrArg some (by kernel_rfl))
 f298 := Tryz.func174.trans (congrArg some (by kernel_rfl))
 f299 := Tryz.func175.trans (congrArg some (by kernel_rfl))
 f300 := Tryz.func177.trans (congrArg some (by kernel_rfl))
 f301 := Tryz.func178.trans (congrArg some (by kernel_rfl))
 f328 := Tryz.func182.trans (congrArg some (by kernel_rfl))
 f329 := Tryz.func183.trans (congrArg some (by kernel_rfl))
 f330 := Tryz.func184.trans (congrArg some (by kernel_rfl))
 f331 := Tryz.func185.trans (congrArg some (by kernel_rfl))
 f332 := Tryz.func186.trans (congrArg some (by kernel_rfl))
 f343 := Tryz.func187.trans (congrArg some (by kernel_rfl))
 t0 := Tryz.underlying0
 a0 := Tryz.isAgg0
 z0 := Tryz.sizeOf0
 v0 := Tryz.zeroValue0
 t3 := Tryz.underlying3
 a3 := Tryz.isAgg3
 z3 := Tryz.sizeOf3
 v3 := Tryz.zeroValue3
 t4 := Tryz.underlying4
 a4 := Tryz.isAgg4
 z4 := Tryz.sizeOf4
 v4 := Tryz.zeroValue4
 t5 := Tryz.underlying5
 a5 := Tryz.isAgg5
 z5 := Tryz.sizeOf5
 v5 := Tryz.zeroValue5
 t9 := Tryz.underlying9
 a9 := Tryz.isAgg9
 z9 := Tryz.sizeOf9
 v9 := Tryz.zeroValue9
 t28 := Tryz.underlying31
 a28 := Tryz.isAgg31
 z28 := Tryz.sizeOf31
 v28 := Tryz.zeroValue31
 t46 := Tryz.underlying176
 a46 := Tryz.isAgg176
 z46 := Tryz.sizeOf176
 v46 := Tryz.zeroValue176
 t51 := Tryz.underlying237
 a51 := Tryz.isAgg237
 z51 := Tryz.sizeOf237
 v51 := Tryz.zeroValue237
 t53 := Tryz.underlying239
 a53 := Tryz.isAgg239
 z53 := Tryz.sizeOf239
 v53 := Tryz.zeroValue239
 t131 := Tryz.underlying84
 a131 := Tryz.isAgg84
 z131 := Tryz.sizeOf84
 v131 := Tryz.zeroValue84
 t182 := Tryz.underlying230
 a182 := Tryz.isAgg230
 z182 := Tryz.sizeOf230
 v182 := Tryz.zeroValue230
 t183 := Tryz.underlying231
 a183 := Tryz.isAgg231
 z183 := Tryz.sizeOf231
 v183 := Tryz.zeroValue231
 t218 := Tryz.underlying241
 a218 := Tryz.isAgg241
 z218 := Tryz.sizeOf241
 v218 := Tryz.zeroValue241
 t222 := Tryz.underlying245
 a222 := Tryz.isAgg245
 z222 := Tryz.sizeOf245
 v222 := Tryz.zeroValue245
 t228 := Tryz.underlying247
 a228 := Tryz.isAgg247
 z228 := Tryz.sizeOf247
 v228 := Tryz.zeroValue247
 t229 := Tryz.underlying226
 a229 := Tryz.isAgg226
 z229 := Tryz.sizeOf226
 v229 := Tryz.zeroValue226 }
def layCompact_ren : Go.Shelf.Ren := ⟨fun | 20 => 150 | n => n, fun | 22 => 31 | 3 => 3 | 4 => 4 | 0 => 0 | n => n, fun | n => n⟩
theorem layCompact : Go.Proofs.Lays2.n20 Tryz.prog layCompact_ren := {
 mixed := by kernel_rfl
 f20 := Tryz.func150.trans (congrArg some (by kernel_rfl))
 t0 := Tryz.underlying0
 a0 := Tryz.isAgg0
 z0 := Tryz.sizeOf0
 v0 := Tryz.zeroValue0
 t3 := Tryz.underlying3
 a3 := Tryz.isAgg3
 z3 := Tryz.sizeOf3
 v3 := Tryz.zeroValue3
 t4 := Tryz.underlying4
 a4 := Tryz.isAgg4
 z4 := Tryz.sizeOf4
 v4 := Tryz.zeroValue4
 t22 := Tryz.underlying31
 a22 := Tryz.isAgg31
 z22 := Tryz.sizeOf31
 v22 := Tryz.zeroValue31
 i3 := by kernel_rfl }
end KP
section
open Go.RowKit Go.Joins Go.ChangeShapes Go.WideShapes Go.Deep
theorem range_i64 {z : Int} (h : (Lit.int .i64 z).wf = true) : -9223372036854775808 ≤ z ∧ z ≤ 9223372036854775807 := by simpa [Lit.wf, IntKind.min, IntKind.max, IntKind.signed, IntKind.bits] using h
section
variable {H : Type} {enc : TypeId × Value → H} {P : Program} {w : World} {base : Nat} {spare : Nat → Bool} {held : Bool}
theorem cells_read {t : TypeId} {fs : Array Field} {fuel : Nat} {cs : List Value} {x : DataW H × List MemPlace} (hs : P.underlying t = some (.struct fs)) (hone : oneCellFields P fs = true) (h : DataW.trod enc P w base spare held fuel t cs = some x) :
  cs.length = P.cellsOf t ∧ ∃ n, ∀ (j : Nat) (f : Field) (c : Value), fs[j]? = some f → cs[j]? = some c → ∃ y, DataW.trod enc P w base spare held n f.type [c] = some y := by
 obtain ⟨xs, n, _, _, hlen, hxl, hf⟩ := DataW.trod_struct hs h
 refine ⟨hlen, n, fun j f c hj hc => ?_⟩
 obtain ⟨ho, hk⟩ := hone_of hone j f hj
 have e := hf j f hj
 rw [ho, hk] at e
 have hjl : j < xs.length := by rw [hxl]; exact (Array.getElem?_eq_some_iff.1 hj).1
 have hcl := (List.getElem?_eq_some_iff.1 hc).1
 have ht : (cs.drop j).take 1 = [c] := by
  rw [List.drop_eq_getElem_cons hcl, List.take_succ_cons, List.take_zero, (List.getElem?_eq_some_iff.1 hc).2]
 rw [ht, List.getElem?_eq_getElem hjl] at e
 exact ⟨_, e⟩
end
end
end Go.Proofs.YteebeiaokfenmaaGreat
