/- Contracts of functions, L07: each as its theorem says. -/
import Derived.Test.YteebeiaokfenmaaGreatL04
import Derived.Laws.IdiomCopy
import Derived.Lib.AppendZerosOnto
import Derived.Lib.Overlaps
import Derived.Shelf.RegionOpenPlain
import Derived.Deep.DeepCutAuto
import Derived.Lib.MinMax
set_option linter.unusedVariables false
set_option linter.unusedSimpArgs false
set_option maxRecDepth 100000
set_option maxHeartbeats 16000000
namespace Go.Proofs.YteebeiaokfenmaaGreat
namespace CP
open Go.RowKit
open CM (Mg Cm)
def Tn (b : Nat) (W : World) (M : Option Addr) (k : Nat) : Prop := 0 < k → ∃ g cur, M = some ⟨g, 0, none⟩ ∧ b ≤ g ∧ Box W g 3 cur ∧ k ≤ cur.size
theorem Tn.below {b : Nat} {W W' : World} {M : Option Addr} {k : Nat} (h : Tn b W M k) (hb : Below W.heap.size W W') : Tn b W' M k := fun h0 => by
 obtain ⟨g, cur, e, h1, h2, h3⟩ := h h0
 exact ⟨g, cur, e, h1, h2.below hb h2.lt, h3⟩
theorem Tn.mono {b b' : Nat} {W : World} {M : Option Addr} {k : Nat} (h : Tn b W M k) (hb : b' ≤ b) : Tn b' W M k := fun h0 => by
 obtain ⟨g, cur, e, h1, h2, h3⟩ := h h0
 exact ⟨g, cur, e, Nat.le_trans hb h1, h2, h3⟩
theorem Tn.grown {b : Nat} {W W' : World} {M : Option Addr} {k : Nat} {r : Option Nat} (h : Tn b W M k) (hg : W.grownBy W' r) (hr : ∀ ad, M = some ad → 0 < k → r ≠ some ad.block) : Tn b W' M k := fun h0 => by
 obtain ⟨g, cur, e, h1, h2, h3⟩ := h h0
 exact ⟨g, cur, e, h1, h2.grown hg (fun q => hr _ e h0 q.symm), h3⟩
theorem tn_own {w : World} {b n : Nat} {A : Option Addr} {c : Nat} {l : List Int} (h : w.ownsRow b 3 1 (.slice A n c) n (ic l)) (hn : n = l.length) : Tn b w A l.length := fun h0 => by
 subst hn
 obtain ⟨g, cap, hv, hbg, hlt⟩ := h.form h0
 injection hv with e1 e2 e3
 subst e1
 obtain ⟨_, cur, hc⟩ := own_block h (g := g) rfl
 refine ⟨g, cur, rfl, hbg, hc, ?_⟩
 rcases Nat.lt_or_ge cur.size l.length with k | k
 ·exfalso
  have hcs := h.cells (g := g) rfl
  have hkl : cur.size < (ic l).length := by rw [ic_length]; exact k
  have := hcs cur.size (ic l)[cur.size] (List.getElem?_eq_getElem hkl)
  have e2 : (⟨g, 0, none⟩ : Addr).add cur.size = ⟨g, cur.size, none⟩ := by unfold Addr.add; split <;> simp_all
  rw [e2, hc.cell] at this
  simp at this
 ·exact k
structure RowGe (w : World) (b : Nat) (A : Option Addr) (c : Nat) (l : List Int) : Prop where
 is : RowIs w A c l
 ge : ∀ ad, A = some ad → 0 < l.length → b ≤ ad.block
 tn : Tn b w A l.length
theorem rowGe_own {w : World} {b n : Nat} {A : Option Addr} {c : Nat} {l : List Int} (h : w.ownsRow b 3 1 (.slice A n c) n (ic l)) (hn : n = l.length) (h1 : l.length ≤ c) (h2 : c ≤ maxLen) : RowGe w b A c l := by
 have ht := tn_own h hn
 subst hn
 refine ⟨⟨Rd.of_own h, h1, h2⟩, fun ad e _ => ?_, ht⟩
 rcases h.2 with ⟨hv, _⟩ | ⟨g', cap, cur, hv, hb, _⟩
 ·injection hv with hv; rw [hv] at e; cases e
 ·injection hv with hv; rw [hv] at e; injection e with e; rw [← e]; exact hb
theorem RowGe.set {w : World} {b : Nat} {A : Option Addr} {c : Nat} {l : List Int} (h : RowGe w b A c l) {g i : Nat} (hg : g < b) (v : Value) : RowGe (w.setCell ⟨g, i, none⟩ v) b A c l := by
 refine ⟨⟨⟨h.1.1.1, fun hn => ?_⟩, h.1.2⟩, h.2, fun h0 => ?_⟩
 ·obtain ⟨ad, e, hB, hc⟩ := h.1.1.2 hn
  have hb := h.2 ad e hn
  refine ⟨ad, e, by simpa using hB, fun j u hu => ?_⟩
  exact (World.cell?_of_block (Below.heap_setCell w ⟨g, i, none⟩ v (ad.add j).block (by rw [block_of_add]; show ad.block ≠ g; omega))).trans (hc j u hu)
 ·obtain ⟨g', cur, e, h1, h2, h3⟩ := h.3 h0
  exact ⟨g', cur, e, h1, h2.far (p := ⟨g, i, none⟩) (by show g' ≠ g; omega) v, h3⟩
section
variable {w w' : World} {b : Nat} {A : Option Addr} {c : Nat} {L : List Int}
theorem RowGe.below (hr : RowGe w b A c L) (hb : Below w.heap.size w w') : RowGe w' b A c L := ⟨hr.1.below hb, hr.2, hr.3.below hb⟩
theorem RowGe.mono {b' : Nat} (hr : RowGe w b A c L) (hb : b' ≤ b) : RowGe w b' A c L := ⟨hr.1, fun ad e hn => Nat.le_trans hb (hr.2 ad e hn), hr.3.mono hb⟩
theorem RowGe.none (w : World) (b : Nat) : RowGe w b .none 0 [] := ⟨RowIs.none w, (fun _ e => by cases e), fun h => absurd h (Nat.lt_irrefl 0)⟩
def CmGe (w : World) (b : Nat) (v : Value) (x : Cm) : Prop := ∃ A c B d, v = .agg (ccells A c B d x) ∧ RowGe w b A c x.m.gs ∧ RowGe w b B d x.ms
theorem zero_ge (w : World) (b : Nat) : CmGe w b (.agg #[.int .u8 0, .int .i64 0, .slice .none 0 0, .int .i64 0, .string .empty, .string .empty, .int .i64 0, .int .i64 0, .slice .none 0 0, .int .i64 0, .int .i64 0, .int .i64 0]) CM.zero := ⟨.none, 0, .none, 0, rfl, RowGe.none w b, RowGe.none w b⟩
end
end CP
namespace TP
open Go.RowKit
open TM (Sp)
def vsp (a : Sp) : Value := .agg #[.int .i64 a.t, .int .i64 a.i]
def spc (a : Sp) : List Value := [.int .i64 a.t, .int .i64 a.i]
theorem spc_one (a : Sp) : ∀ u ∈ spc a, u.oneCell' = true := by intro u hu; simp [spc] at hu; rcases hu with rfl | rfl <;> rfl
theorem spc_len (l : List Sp) : ∀ a ∈ l, (spc a).length = 2 := fun _ _ => rfl
theorem flat_spc (l : List Sp) : (flat spc l).length = l.length * 2 := flat_length (spc_len l)
theorem flat_spc_one (l : List Sp) : ∀ u ∈ flat spc l, u.oneCell' = true := by
 intro u hu
 unfold flat at hu
 obtain ⟨a, _, ha⟩ := List.mem_flatMap.1 hu
 exact spc_one a u ha
theorem add_none (bl o j : Nat) : (⟨bl, o, none⟩ : Addr).add j = ⟨bl, o + j, none⟩ := by unfold Addr.add; split <;> simp_all
theorem spot_none {w : World} {a : Addr} {v : Value} (h : w.cell? a = some v) : a.spot = none := by
 unfold World.cell? at h
 split at h
 ·split at h
  ·cases h
  ·rename_i hn
   cases hs : a.spot
   ·rfl
   ·simp [hs] at hn
 ·cases h
def SpsIs (w : World) (A : Option Addr) (n c : Nat) (l : List Sp) : Prop := RdG w 2 A n (flat spc l) ∧ l.length = n ∧ n ≤ c ∧ c ≤ maxLen
theorem SpsIs.below {w w' : World} {A : Option Addr} {n c : Nat} {l : List Sp} (h : SpsIs w A n c l) (hb : Below w.heap.size w w') : SpsIs w' A n c l := ⟨h.1.below hb, h.2⟩
theorem SpsIs.small {w : World} {A : Option Addr} {n c : Nat} {l : List Sp} (h : SpsIs w A n c l) : n ≤ 9223372036854775807 := by
 have h1 := h.2.2.1
 have h2 := h.2.2.2
 unfold maxLen at h2
 omega
theorem SpsIs.at_ {w : World} {A : Option Addr} {n c k : Nat} {l : List Sp} {a : Sp} (h : SpsIs w A n c l) (hk : l[k]? = some a) :
  ∃ bl o, A = some ⟨bl, o, none⟩ ∧ k < n ∧ bl < w.heap.size ∧ w.cell? ⟨bl, o + k * 2, none⟩ = some (.int .i64 a.t) ∧ w.cell? ⟨bl, o + k * 2 + 1, none⟩ = some (.int .i64 a.i) := by
 have hkl := (List.getElem?_eq_some_iff.1 hk).1
 have hl := h.2.1
 obtain ⟨ad, e, hb, hc⟩ := h.1.2 (by omega)
 have g0 := hc (k * 2 + 0) _ (by rw [flat_get (spc_len l) hk 0 (by omega)]; rfl)
 have g1 := hc (k * 2 + 1) _ (by rw [flat_get (spc_len l) hk 1 (by omega)]; rfl)
 have hsp : ad.spot = none := by
  have hp : 0 < (flat spc l).length := by rw [flat_spc]; omega
  have h0 := hc 0 _ (List.getElem?_eq_getElem hp)
  rw [show ad.add 0 = ad from by simp [Addr.add]] at h0
  exact spot_none h0
 obtain ⟨bl, o, sp⟩ := ad
 simp only at hsp
 subst hsp
 rw [add_none] at g0 g1
 exact ⟨bl, o, e, by omega, hb, g0, g1⟩
def IsB (b : Bool) (w : World) (e : Ending) (w' : World) : Prop := e = .returned (.bool b) ∧ Below w.heap.size w w'
def IsN (y : Int) (w : World) (e : Ending) (w' : World) : Prop := e = .returned (.int .i64 y) ∧ Below w.heap.size w w'
end TP
namespace KP
open Go.RowKit
def pt7 (w : World) (g : Nat) (a0 a1 a2 a3 a4 a5 a6 : Value) : World := ((((((w.setCell ⟨g, 0, none⟩ a0).setCell ⟨g, 1, none⟩ a1).setCell ⟨g, 2, none⟩ a2).setCell ⟨g, 3, none⟩ a3).setCell ⟨g, 4, none⟩ a4).setCell ⟨g, 5, none⟩ a5).setCell ⟨g, 6, none⟩ a6
section
variable {w u : World} {B g g' : Nat} {t : TypeId}
theorem pt7_box {b0 b1 b2 b3 b4 b5 b6 : Value} (h : Box w g t #[b0, b1, b2, b3, b4, b5, b6]) (a0 a1 a2 a3 a4 a5 a6 : Value) : Box (pt7 w g a0 a1 a2 a3 a4 a5 a6) g t #[a0, a1, a2, a3, a4, a5, a6] := by
 have := ((((((h.stored 0 a0).stored 1 a1).stored 2 a2).stored 3 a3).stored 4 a4).stored 5 a5).stored 6 a6
 simpa [pt7] using this
theorem pt7_far {cs : Array Value} (h : Box w g' t cs) (hg : g' ≠ g) (a0 a1 a2 a3 a4 a5 a6 : Value) : Box (pt7 w g a0 a1 a2 a3 a4 a5 a6) g' t cs :=
 ((((((h.far (p := ⟨g, 0, none⟩) hg a0).far (p := ⟨g, 1, none⟩) hg a1).far (p := ⟨g, 2, none⟩) hg a2).far (p := ⟨g, 3, none⟩) hg a3).far (p := ⟨g, 4, none⟩) hg a4).far (p := ⟨g, 5, none⟩) hg a5).far (p := ⟨g, 6, none⟩) hg a6
theorem pt7_below (h : Below B u w) (hg : B ≤ g) (a0 a1 a2 a3 a4 a5 a6 : Value) : Below B u (pt7 w g a0 a1 a2 a3 a4 a5 a6) :=
 ((((((h.setCell (p := ⟨g, 0, none⟩) hg a0).setCell (p := ⟨g, 1, none⟩) hg a1).setCell (p := ⟨g, 2, none⟩) hg a2).setCell (p := ⟨g, 3, none⟩) hg a3).setCell (p := ⟨g, 4, none⟩) hg a4).setCell (p := ⟨g, 5, none⟩) hg a5).setCell (p := ⟨g, 6, none⟩) hg a6
end
def pt5 (w : World) (g : Nat) (a0 a1 a2 a3 a4 : Value) : World := ((((w.setCell ⟨g, 0, none⟩ a0).setCell ⟨g, 1, none⟩ a1).setCell ⟨g, 2, none⟩ a2).setCell ⟨g, 3, none⟩ a3).setCell ⟨g, 4, none⟩ a4
section
variable {w u : World} {B g g' : Nat} {t : TypeId}
theorem pt5_box {b0 b1 b2 b3 b4 : Value} (h : Box w g t #[b0, b1, b2, b3, b4]) (a0 a1 a2 a3 a4 : Value) : Box (pt5 w g a0 a1 a2 a3 a4) g t #[a0, a1, a2, a3, a4] := by
 have := ((((h.stored 0 a0).stored 1 a1).stored 2 a2).stored 3 a3).stored 4 a4
 simpa [pt5] using this
theorem pt5_below (h : Below B u w) (hg : B ≤ g) (a0 a1 a2 a3 a4 : Value) : Below B u (pt5 w g a0 a1 a2 a3 a4) :=
 ((((h.setCell (p := ⟨g, 0, none⟩) hg a0).setCell (p := ⟨g, 1, none⟩) hg a1).setCell (p := ⟨g, 2, none⟩) hg a2).setCell (p := ⟨g, 3, none⟩) hg a3).setCell (p := ⟨g, 4, none⟩) hg a4
end
end KP
namespace CP
open Go.RowKit
open CM (Mg Cm)
def put12 (w : World) (g : Nat) (a0 a1 a2 a3 a4 a5 a6 a7 a8 a9 a10 a11 : Value) : World := ((((((((((((w.setCell ⟨g, 0, none⟩ a0).setCell ⟨g, 1, none⟩ a1).setCell ⟨g, 2, none⟩ a2).setCell ⟨g, 3, none⟩ a3).setCell ⟨g, 4, none⟩ a4).setCell ⟨g, 5, none⟩ a5).setCell ⟨g, 6, none⟩ a6).setCell ⟨g, 7, none⟩ a7).setCell ⟨g, 8, none⟩ a8).setCell ⟨g, 9, none⟩ a9).setCell ⟨g, 10, none⟩ a10).setCell ⟨g, 11, none⟩ a11)
theorem put12_below {B g : Nat} {u w : World} (h : Below B u w) (hg : B ≤ g) (a0 a1 a2 a3 a4 a5 a6 a7 a8 a9 a10 a11 : Value) : Below B u (put12 w g a0 a1 a2 a3 a4 a5 a6 a7 a8 a9 a10 a11) :=
 (((((((((((h.setCell (p := ⟨g, 0, none⟩) hg a0).setCell (p := ⟨g, 1, none⟩) hg a1).setCell (p := ⟨g, 2, none⟩) hg a2).setCell (p := ⟨g, 3, none⟩) hg a3).setCell (p := ⟨g, 4, none⟩) hg a4).setCell (p := ⟨g, 5, none⟩) hg a5).setCell (p := ⟨g, 6, none⟩) hg a6).setCell (p := ⟨g, 7, none⟩) hg a7).setCell (p := ⟨g, 8, none⟩) hg a8).setCell (p := ⟨g, 9, none⟩) hg a9).setCell (p := ⟨g, 10, none⟩) hg a10).setCell (p := ⟨g, 11, none⟩) hg a11
end CP
section
open Go.RowKit Go.Lib
theorem run_copy_s {P : Program} (w : World) (dT sT ty e : TypeId) (s : Nat) (b o dLen dCap : Nat) (a : Addr) (sLen sCap : Nat) (cs : List Value)
  (hu : P.underlying dT = some (.slice e)) (hs : (P.info? e).map (·.size) = some s) (hn : cs.length = Nat.min sLen dLen * s)
  (hsrc : ∀ j v, cs[j]? = some v → w.cell? (a.add j) = some v) (hc : ∀ j, j < cs.length → (w.cell? ⟨b, o + j, none⟩).isSome = true) (hf : ∀ j, j < cs.length → w.frozen? ⟨b, o + j, none⟩ = false) (h1 : ∀ v ∈ cs, v.oneCell' = true) :
  (Builtin.copy_ #[dT, sT] ty #[.slice (some ⟨b, o, none⟩) dLen dCap, .slice (some a) sLen sCap]).run P w = .ok (goInt (Nat.min sLen dLen)) (w.setCells b o cs) := by
 have hl := run_loadCells_list (P := P) w a cs hsrc
 have hst := run_storeCells_cells (P := P) b o cs 0 w (by simpa using hc) (by simpa using hf) h1
 cases hq : P.info? e with
 | none => simp [hq] at hs
 | some i =>
  have hi : i.size = s := by simpa [hq] using hs
  simp only [hn] at hl
  simp [Builtin.copy_, run_underlying hu, Builtin.lenOf, Builtin.firstCells, sizeOf, typeInfo, hq, hi, hl, hst]
theorem box_setCells {g : Nat} {t : TypeId} : ∀ (vs : List Value) (o : Nat) (w : World) (cs : Array Value), Box w g t cs → o + vs.length ≤ cs.size →
  ∃ cs', Box (w.setCells g o vs) g t cs' ∧ cs'.toList = cs.toList.take o ++ vs ++ cs.toList.drop (o + vs.length)
 | [], o, w, cs, h, _ => ⟨cs, h, by simp⟩
 | v :: r, o, w, cs, h, hl => by
  simp only [List.length_cons] at hl
  obtain ⟨cs', h1, h2⟩ := box_setCells r (o + 1) (w.setCell ⟨g, o, none⟩ v) (cs.setIfInBounds o v) (h.stored o v) (by simp; omega)
  refine ⟨cs', h1, ?_⟩
  rw [h2]
  have e : (cs.setIfInBounds o v).toList = cs.toList.set o v := by simp
  have hol : o < cs.toList.length := by simp; omega
  rw [e, List.drop_set_of_lt (by omega), show o + 1 + r.length = o + (v :: r).length by simp; omega]
  congr 1
  rw [List.take_succ_eq_append_getElem (by simpa using hol), List.take_set_of_le n!]
  simp
theorem grown_setCells (g : Nat) : ∀ (vs : List Value) (o : Nat) (w : World), w.grownBy (w.setCells g o vs) (some g)
 | [], o, w => World.grownBy.refl w _
 | v :: r, o, w => by
  have h := grown_setCells g r (o + 1) (w.setCell ⟨g, o, none⟩ v)
  have h0 : w.grownBy (w.setCell ⟨g, o, none⟩ v) (some g) := ⟨rfl, rfl, rfl, by simp [World.setCell], fun k hk hne => Below.heap_setCell _ _ _ _ (by intro e; apply hne; rw [e])⟩
  exact grown_more h0 h (.inl rfl)
theorem set_tail_first {L xs ys vs : List Value} {a s r : Nat} (h1 : L.take a = xs) (hv : vs.length = s) (hy : ys.length = r) (hl : a + s + r ≤ L.length) (hx : xs.length = a) {L1 L2 : List Value}
  (e1 : L1 = L.take (a + s) ++ ys ++ L.drop (a + s + ys.length)) (e2 : L2 = L1.take a ++ vs ++ L1.drop (a + vs.length)) : L2.take (a + s + r) = xs ++ vs ++ ys ∧ L2.length = L.length := by
 have ha : (L.take (a + s)).length = a + s := by rw [List.length_take]; omega
 have t1 : L1.take a = xs := by
  rw [e1, List.append_assoc, List.take_append_of_le_length (by omega), List.take_take, Nat.min_eq_left (by omega), h1]
 have t2 : L1.drop (a + vs.length) = ys ++ L.drop (a + s + ys.length) := by
  rw [e1, hv, List.append_assoc, List.drop_append_of_le_length (by omega), List.drop_eq_nil_of_le (by omega), List.nil_append]
 constructor
 ·rw [e2, t1, t2, ← List.append_assoc, List.take_append_of_le_length (by simp; omega), List.take_of_length_le (by simp; omega)]
 ·rw [e2, t1, t2]
  simp
  omega
theorem set_new_first {L xs ys vs : List Value} {a s r : Nat} (h1 : L.take a = xs) (hv : vs.length = s) (hy : ys.length = r) (hl : a + s + r ≤ L.length) (hx : xs.length = a) {L1 L2 : List Value}
  (e1 : L1 = L.take a ++ vs ++ L.drop (a + vs.length)) (e2 : L2 = L1.take (a + s) ++ ys ++ L1.drop (a + s + ys.length)) : L2.take (a + s + r) = xs ++ vs ++ ys ∧ L2.length = L.length := by
 have t1 : L1.take (a + s) = xs ++ vs := by
  rw [e1, h1, List.take_append_of_le_length (by simp; omega), List.take_of_length_le (by simp; omega)]
 have hl1 : L1.length = L.length := by rw [e1]; simp; omega
 constructor
 ·rw [e2, t1, List.take_append_of_le_length (by simp; omega), List.take_of_length_le (by simp; omega)]
 ·rw [e2, t1]
  simp
  omega
def InsIs (base : Nat) (e : TypeId) (s n : Nat) (xs : List Value) (ob : Option Nat) (w : World) (x : Ending) (w' : World) : Prop :=
 ∃ A c, x = .returned (.slice A (n + 1) c) ∧ w'.ownsRow base e s (.slice A (n + 1) c) (n + 1) xs ∧ w.grownBy w' ob ∧ (Value.ownBlock (.slice A (n + 1) c) = ob ∨ Value.ownBlock (.slice A (n + 1) c) = some w.heap.size)
theorem Box.isSome {w : World} {g : Nat} {t : TypeId} {cs : Array Value} (h : Box w g t cs) {j : Nat} (hj : j < cs.size) : (w.cell? ⟨g, j, none⟩).isSome = true := by
 rw [h.cell j, Array.getElem?_eq_getElem hj]; rfl
end
namespace SP
open Go.RowKit
def tc (l : List ByteArray) : List Value := l.map Value.string
theorem tc_length (l : List ByteArray) : (tc l).length = l.length := by simp [tc]
theorem tc_get {l : List ByteArray} {k : Nat} {v : ByteArray} (h : l[k]? = some v) : (tc l)[k]? = some (.string v) := by simp [tc, h]
def Rws (w : World) (rows : List Value) (ls : List (List ByteArray)) : Prop :=
 rows.length = ls.length ∧ ∀ (i : Nat) l, ls[i]? = some l → ∃ B c, rows[i]? = some (.slice B l.length c) ∧ Rd w B l.length (tc l) ∧ l.length ≤ c ∧ c ≤ maxLen
def LogsIs (w : World) (A : Option Addr) (n c : Nat) (ls : List (List ByteArray)) : Prop := ∃ rows, Rd w A n rows ∧ Rws w rows ls ∧ ls.length = n ∧ n ≤ c ∧ c ≤ maxLen
theorem Rws.below {w w' : World} {rows : List Value} {ls : List (List ByteArray)} (h : Rws w rows ls) (hb : Below w.heap.size w w') : Rws w' rows ls :=
 ⟨h.1, fun i l hi => by obtain ⟨B, c, h1, h2, h3, h4⟩ := h.2 i l hi; exact ⟨B, c, h1, h2.below hb, h3, h4⟩⟩
theorem LogsIs.below {w w' : World} {A : Option Addr} {n c : Nat} {ls : List (List ByteArray)} (h : LogsIs w A n c ls) (hb : Below w.heap.size w w') : LogsIs w' A n c ls := by
 obtain ⟨rows, h1, h2, h3⟩ := h
 exact ⟨rows, h1.below hb, h2.below hb, h3⟩
theorem logs_get {w : World} {A : Option Addr} {n c k : Nat} {ls : List (List ByteArray)} {l : List ByteArray} (h : LogsIs w A n c ls) (hk : ls[k]? = some l) :
  ∃ ad B d, A = some ad ∧ k < n ∧ w.cell? (ad.add k) = some (.slice B l.length d) ∧ Rd w B l.length (tc l) ∧ l.length ≤ d ∧ d ≤ maxLen := by
 obtain ⟨rows, h1, h2, h3, h4, h5⟩ := h
 obtain ⟨B, d, e, hr, hd, hm⟩ := h2.2 k l hk
 have hkl := (List.getElem?_eq_some_iff.1 hk).1
 obtain ⟨ad, u, ea, _, hu, hc⟩ := h1.at_ (k := k) (by omega)
 rw [e] at hu
 injection hu with hu
 exact ⟨ad, B, d, ea, by omega, by rw [hc, hu], hr, hd, hm⟩
end SP
section
open Go.RowKit Go.Joins Go.ChangeShapes Go.WideShapes Go.Deep
section
variable {H : Type} {enc : TypeId × Value → H} {w : World} {spare : Nat → Bool} {held : Bool} {base : Nat}
theorem rows_cells {α : Type} [Inhabited α] {f : α → List Value} {s : Nat} {T E : TypeId} {Fa : α → Prop} (hT : Tryz.prog.underlying T = some (.slice E)) (hC : Tryz.prog.cellsOf E = s) (hs0 : 0 < s)
  (hr : ∀ {fuel : Nat} {cs : List Value} {x : DataW H × List MemPlace}, DataW.trod enc Tryz.prog w base spare held fuel E cs = some x → ∃ a, cs = f a ∧ Fa a)
  {fuel : Nat} {v : Value} {x : DataW H × List MemPlace} (h : DataW.trod enc Tryz.prog w base spare held fuel T [v] = some x) :
  ∃ A n c l, v = .slice A n c ∧ n ≤ c ∧ c ≤ maxLen ∧ RdG w s A n (flat f l) ∧ l.length = n ∧ ∀ a ∈ l, Fa a := by
 rcases open_slice hT h with ⟨hcs, _⟩ | ⟨a, len, cap, m, n, D, Pl, hcs, hbl, hl, hm, hmm, _, hi⟩
 ·simp at hcs
  exact ⟨none, 0, 0, [], hcs, Nat.le_refl _, Nat.zero_le _, ⟨by simp [flat], fun h => absurd h (by omega)⟩, rfl, fun p hp => by cases hp⟩
 ·simp at hcs
  have hlm : len ≤ m := by rw [hmm]; split <;> omega
  have hex : ∀ i, ∃ p : α, i < len → (f p).length = s ∧ (∀ j, j < s → w.cell? (a.add (i * s + j)) = (f p)[j]?) ∧ Fa p := by
   intro i
   by_cases hil : i < len
   ·obtain ⟨cs, hc, ht⟩ := hi i (by omega)
    obtain ⟨p, rfl, F⟩ := hr ht
    rw [hC] at hc
    obtain ⟨_, hlen, hat⟩ := World.cells?_some hc
    refine ⟨p, fun _ => ⟨hlen, fun j hj => ?_, F⟩⟩
    have := hat j (by omega)
    rw [add_of_add] at this
    exact this
   ·exact ⟨default, fun h => absurd h hil⟩
  obtain ⟨Q, hQ⟩ := Classical.axiomOfChoice hex
  have hps : ∀ (k : Nat) (p : α), ((List.range len).map Q)[k]? = some p → k < len ∧ p = Q k := by
   intro k p hk
   have hkl := (List.getElem?_eq_some_iff.1 hk).1
   simp at hkl
   rw [List.getElem?_map, List.getElem?_range hkl] at hk
   simp at hk
   exact ⟨hkl, hk.symm⟩
  have hfl : ∀ p ∈ (List.range len).map Q, (f p).length = s := fun p hp => by
   obtain ⟨k, hk, rfl⟩ := List.getElem_of_mem hp
   obtain ⟨h1, e⟩ := hps k _ (List.getElem?_eq_getElem hk)
   rw [e]
   exact (hQ k h1).1
  refine ⟨some a, len, cap, (List.range len).map Q, hcs, hl, hm, ⟨by rw [flat_length hfl]; simp, fun h0 => ⟨a, rfl, ?_, fun j u hu => ?_⟩⟩, by simp, fun p hp => ?_⟩
  ·have h1 := (hQ 0 h0).2.1 0 hs0
   have h2 : 0 < (f (Q 0)).length := by rw [(hQ 0 h0).1]; exact hs0
   rw [List.getElem?_eq_getElem h2] at h1
   have hb := cell_block h1
   rwa [block_of_add] at hb
  ·have hj := (List.getElem?_eq_some_iff.1 hu).1
   rw [flat_length hfl] at hj
   simp at hj
   have hk : j / s < len := Nat.div_lt_of_lt_mul (by rw [Nat.mul_comm]; exact hj)
   have hgk : ((List.range len).map Q)[j / s]? = some (Q (j / s)) := by simp [hk]
   have hmod := Nat.mod_lt j hs0
   have e1 := flat_get hfl hgk (j % s) hmod
   have e2 : j / s * s + j % s = j := by rw [Nat.mul_comm]; exact Nat.div_add_mod j s
   rw [e2] at e1
   have e3 := (hQ (j / s) hk).2.1 (j % s) hmod
   rw [e2] at e3
   rw [e3, ← e1, hu]
  ·obtain ⟨k, hk, rfl⟩ := List.getElem_of_mem hp
   obtain ⟨h1, e⟩ := hps k _ (List.getElem?_eq_getElem hk)
   rw [e]
   exact (hQ k h1).2.2
end
end
namespace KP
open Go.RowKit CP TP
open CM (Mg Cm)
open TM (Sp)
open KM (Wt Sk)
structure Kd (α : Type) where
 s : Nat
 gs : α → List Int
 cel : Option Addr → Nat → α → List Value
 pos : 0 < s
 len : ∀ A c x, (cel A c x).length = s
 one : ∀ A c x, ∀ u ∈ cel A c x, u.oneCell' = true
structure Ex (α : Type) where
 A : Option Addr
 c : Nat
 x : α
section
variable {α : Type} (K : Kd α)
def exc (e : Ex α) : List Value := K.cel e.A e.c e.x
theorem exc_len (l : List (Ex α)) : ∀ e ∈ l, (exc K e).length = K.s := fun e _ => K.len _ _ _
theorem flat_exc (l : List (Ex α)) : (flat (exc K) l).length = l.length * K.s := flat_length (exc_len K l)
theorem exc_one (l : List (Ex α)) : ∀ u ∈ flat (exc K) l, u.oneCell' = true := one_flat (fun e => K.one _ _ _) l
def KR (w : World) (A : Option Addr) (n c : Nat) (l : List α) : Prop :=
 ∃ es : List (Ex α), es.map Ex.x = l ∧ RdG w K.s A n (flat (exc K) es) ∧ es.length = n ∧ n ≤ c ∧ c ≤ maxLen ∧ ∀ e ∈ es, RowIs w e.A e.c (K.gs e.x)
def KG (w : World) (b : Nat) (A : Option Addr) (n c : Nat) (l : List α) : Prop :=
 ∃ es : List (Ex α), es.map Ex.x = l ∧ RdG w K.s A n (flat (exc K) es) ∧ es.length = n ∧ n ≤ c ∧ c ≤ maxLen ∧ ∀ e ∈ es, RowGe w b e.A e.c (K.gs e.x)
def KO (w : World) (b : Nat) (T : TypeId) (v : Value) (l : List α) : Prop :=
 ∃ es : List (Ex α), es.map Ex.x = l ∧ w.ownsRow b T K.s v es.length (flat (exc K) es) ∧ ∀ e ∈ es, RowGe w b e.A e.c (K.gs e.x) ∧ ∀ ad, e.A = some ad → 0 < (K.gs e.x).length → v.ownBlock ≠ some ad.block
variable {K} {w w' : World} {b n c : Nat} {A : Option Addr} {l : List α} {T : TypeId} {v : Value}
theorem KR.len (h : KR K w A n c l) : l.length = n := by obtain ⟨es, rfl, _, h, _⟩ := h; rw [List.length_map]; exact h
theorem KR.le (h : KR K w A n c l) : n ≤ c ∧ c ≤ maxLen := by obtain ⟨es, _, _, _, h1, h2, _⟩ := h; exact ⟨h1, h2⟩
theorem KR.small (h : KR K w A n c l) : n ≤ 9223372036854775807 := by
 have := h.le
 unfold maxLen at this
 omega
theorem KR.below (h : KR K w A n c l) (hb : Below w.heap.size w w') : KR K w' A n c l := by
 obtain ⟨es, h1, h2, h3, h4, h5, h6⟩ := h
 exact ⟨es, h1, h2.below hb, h3, h4, h5, fun e he => (h6 e he).below hb⟩
theorem KG.r (h : KG K w b A n c l) : KR K w A n c l := by
 obtain ⟨es, h1, h2, h3, h4, h5, h6⟩ := h
 exact ⟨es, h1, h2, h3, h4, h5, fun e he => (h6 e he).1⟩
theorem KO.below (h : KO K w b T v l) (hb : Below w.heap.size w w') : KO K w' b T v l := by
 obtain ⟨es, h1, h2, h3⟩ := h
 exact ⟨es, h1, own_below3 h2 hb, fun e he => ⟨(h3 e he).1.below hb, (h3 e he).2⟩⟩
theorem KO.mono {b' : Nat} (h : KO K w b T v l) (hb : b' ≤ b) : KO K w b' T v l := by
 obtain ⟨es, h1, h2, h3⟩ := h
 exact ⟨es, h1, own_base h2 hb, fun e he => ⟨(h3 e he).1.mono hb, (h3 e he).2⟩⟩
theorem rdg_own {base s n c : Nat} {e : TypeId} {A : Option Addr} {xs : List Value} (h : w.ownsRow base e s (.slice A n c) n xs) : RdG w s A n xs := by
 refine ⟨h.1, fun hn => ?_⟩
 obtain ⟨g, cap, hv, _, hlt⟩ := h.form hn
 have hA : A = some ⟨g, 0, none⟩ := by injection hv
 subst hA
 exact ⟨_, rfl, hlt, h.cells (g := g) rfl⟩
theorem KO.g (h : KO K w b T v l) : ∃ A c, v = .slice A l.length c ∧ KG K w b A l.length c l := by
 obtain ⟨es, rfl, h2, h3⟩ := h
 obtain ⟨A, c, rfl, h4, h5⟩ := own_form h2
 rw [List.length_map]
 exact ⟨A, c, rfl, es, rfl, rdg_own h2, rfl, h4, h5, fun e he => (h3 e he).1⟩
variable (K) in
theorem kO_nil (w : World) (b : Nat) (T : TypeId) : KO K w b T (.slice none 0 0) [] := ⟨[], rfl, World.ownsRow_nil _ _ _ _, fun e he => by cases he⟩
theorem KR.at_ (h : KR K w A n c l) {k : Nat} {x : α} (hk : l[k]? = some x) : ∃ bl o B d, A = some ⟨bl, o, none⟩ ∧ k < n ∧ bl < w.heap.size ∧
  (∀ j u, (K.cel B d x)[j]? = some u → w.cell? ⟨bl, o + k * K.s + j, none⟩ = some u) ∧ RowIs w B d (K.gs x) := by
 obtain ⟨es, rfl, h2, h3, _, _, h6⟩ := h
 rw [List.getElem?_map] at hk
 rcases he : es[k]? with _ | e
 ·rw [he] at hk; cases hk
 ·rw [he] at hk
  injection hk with hk
  subst hk
  have hkl := (List.getElem?_eq_some_iff.1 he).1
  have hs := K.pos
  obtain ⟨ad, ea, hb, hc⟩ := h2.2 (by omega)
  have hp : 0 < (flat (exc K) es).length := by rw [flat_exc]; exact Nat.mul_pos (by omega) hs
  have h0 := hc 0 _ (List.getElem?_eq_getElem hp)
  rw [show ad.add 0 = ad from by simp [Addr.add]] at h0
  have hsp := spot_none h0
  obtain ⟨bl, o, sp⟩ := ad
  simp only at hsp
  subst hsp
  refine ⟨bl, o, e.A, e.c, ea, by omega, hb, fun j u hu => ?_, h6 e (List.mem_of_getElem? he)⟩
  have hj := (List.getElem?_eq_some_iff.1 hu).1
  rw [K.len] at hj
  have := hc (k * K.s + j) u (by rw [flat_get (exc_len K es) he j hj]; exact hu)
  rw [add_none] at this
  rw [Nat.add_assoc]
  exact this
theorem KG.at_ (h : KG K w b A n c l) {k : Nat} {x : α} (hk : l[k]? = some x) : ∃ bl o B d, A = some ⟨bl, o, none⟩ ∧ k < n ∧ bl < w.heap.size ∧
  (∀ j u, (K.cel B d x)[j]? = some u → w.cell? ⟨bl, o + k * K.s + j, none⟩ = some u) ∧ RowGe w b B d (K.gs x) := by
 obtain ⟨es, rfl, h2, h3, _, _, h6⟩ := h
 rw [List.getElem?_map] at hk
 rcases he : es[k]? with _ | e
 ·rw [he] at hk; cases hk
 ·rw [he] at hk
  injection hk with hk
  subst hk
  have hkl := (List.getElem?_eq_some_iff.1 he).1
  have hs := K.pos
  obtain ⟨ad, ea, hb, hc⟩ := h2.2 (by omega)
  have hp : 0 < (flat (exc K) es).length := by rw [flat_exc]; exact Nat.mul_pos (by omega) hs
  have h0 := hc 0 _ (List.getElem?_eq_getElem hp)
  rw [show ad.add 0 = ad from by simp [Addr.add]] at h0
  have hsp := spot_none h0
  obtain ⟨bl, o, sp⟩ := ad
  simp only at hsp
  subst hsp
  refine ⟨bl, o, e.A, e.c, ea, by omega, hb, fun j u hu => ?_, h6 e (List.mem_of_getElem? he)⟩
  have hj := (List.getElem?_eq_some_iff.1 hu).1
  rw [K.len] at hj
  have := hc (k * K.s + j) u (by rw [flat_get (exc_len K es) he j hj]; exact hu)
  rw [add_none] at this
  rw [Nat.add_assoc]
  exact this
theorem row_lt {A : Option Addr} {c : Nat} {L : List Int} {ad : Addr} (hR : RowIs w A c L) (e : A = some ad) (hn : 0 < L.length) : ad.block < w.heap.size := by
 obtain ⟨a, e2, hB, _⟩ := hR.1.2 hn
 rw [e] at e2; injection e2 with e2; rw [e2]; exact hB
theorem rowGe_grown {A : Option Addr} {c : Nat} {L : List Int} {r : Option Nat} (h : RowGe w b A c L) (hg : w.grownBy w' r) (hr : ∀ ad, A = some ad → 0 < L.length → r ≠ some ad.block) : RowGe w' b A c L :=
 ⟨⟨h.1.1.grown hg fun ad e hn k => hr ad e hn k.symm, h.1.2⟩, h.2, h.3.grown hg hr⟩
theorem kO_next {v2 : Value} {x : α} (es : List (Ex α)) (hl : es.map Ex.x = l) (hr : ∀ e ∈ es, RowGe w b e.A e.c (K.gs e.x) ∧ ∀ ad, e.A = some ad → 0 < (K.gs e.x).length → v.ownBlock ≠ some ad.block) {A : Option Addr} {c : Nat}
  (h1 : RowGe w b A c (K.gs x)) (n1 : ∀ ad, A = some ad → 0 < (K.gs x).length → v.ownBlock ≠ some ad.block)
  (hg : w.grownBy w' v.ownBlock) (ho : w'.ownsRow b T K.s v2 (es.length + 1) (flat (exc K) es ++ K.cel A c x)) (hob : v2.ownBlock = v.ownBlock ∨ v2.ownBlock = some w.heap.size) : KO K w' b T v2 (l ++ [x]) := by
 refine ⟨es ++ [⟨A, c, x⟩], by simp [hl], by rw [flat_append, flat_one, List.length_append]; exact ho, fun e he => ?_⟩
 have hfin : ∀ ad : Addr, ad.block < w.heap.size → v.ownBlock ≠ some ad.block → v2.ownBlock ≠ some ad.block := fun ad hlt hne => by
  rcases hob with k | k
  ·rw [k]; exact hne
  ·rw [k]; intro q; injection q with q; omega
 rcases List.mem_append.1 he with he | he
 ·obtain ⟨g1, g2⟩ := hr e he
  exact ⟨rowGe_grown g1 hg g2, fun ad e1 hn => hfin ad (row_lt g1.1 e1 hn) (g2 ad e1 hn)⟩
 ·obtain rfl := List.mem_singleton.1 he
  exact ⟨rowGe_grown h1 hg n1, fun ad e1 hn => hfin ad (row_lt h1.1 e1 hn) (n1 ad e1 hn)⟩
end
def KW : Kd Wt := ⟨7, fun x => x.m.gs, fun A c x => [.int .i64 x.m.id, .slice A x.m.gs.length c, .int .i64 x.m.tp, .string x.m.key, .string x.m.body, .int .i64 x.t, .bool x.f], by omega, fun _ _ _ => rfl, fun A c x u hu => by
 simp only [List.mem_cons, List.not_mem_nil, or_false] at hu
 rcases hu with rfl | rfl | rfl | rfl | rfl | rfl | rfl <;> rfl⟩
def KM_ : Kd Mg := ⟨5, fun x => x.gs, fun A c x => [.int .i64 x.id, .slice A x.gs.length c, .int .i64 x.tp, .string x.key, .string x.body], by omega, fun _ _ _ => rfl, fun A c x u hu => by
 simp only [List.mem_cons, List.not_mem_nil, or_false] at hu
 rcases hu with rfl | rfl | rfl | rfl | rfl <;> rfl⟩
def vwt (A : Option Addr) (c : Nat) (x : Wt) : Value := .agg #[.int .i64 x.m.id, .slice A x.m.gs.length c, .int .i64 x.m.tp, .string x.m.key, .string x.m.body, .int .i64 x.t, .bool x.f]
def At7 (W : World) (b o : Nat) (B : Option Addr) (d : Nat) (x : Wt) : Prop :=
 W.cell? ⟨b, o, none⟩ = some (.int .i64 x.m.id) ∧ W.cell? ⟨b, o + 1, none⟩ = some (.slice B x.m.gs.length d) ∧ W.cell? ⟨b, o + 2, none⟩ = some (.int .i64 x.m.tp) ∧ W.cell? ⟨b, o + 3, none⟩ = some (.string x.m.key) ∧
  W.cell? ⟨b, o + 4, none⟩ = some (.string x.m.body) ∧ W.cell? ⟨b, o + 5, none⟩ = some (.int .i64 x.t) ∧ W.cell? ⟨b, o + 6, none⟩ = some (.bool x.f)
theorem at7_of {W : World} {b o : Nat} {B : Option Addr} {d : Nat} {x : Wt} (h : ∀ j u, (KW.cel B d x)[j]? = some u → W.cell? ⟨b, o + j, none⟩ = some u) : At7 W b o B d x :=
 ⟨h 0 _ rfl, h 1 _ rfl, h 2 _ rfl, h 3 _ rfl, h 4 _ rfl, h 5 _ rfl, h 6 _ rfl⟩
theorem At7.below {W W' : World} {b o n₀ : Nat} {B : Option Addr} {d : Nat} {x : Wt} (h : At7 W b o B d x) (hb : b < n₀) (hB : Below n₀ W W') : At7 W' b o B d x := by
 obtain ⟨h0, h1, h2, h3, h4, h5, h6⟩ := h
 exact ⟨(hB.cell (p := ⟨b, o, none⟩) hb).trans h0, (hB.cell (p := ⟨b, o + 1, none⟩) hb).trans h1, (hB.cell (p := ⟨b, o + 2, none⟩) hb).trans h2, (hB.cell (p := ⟨b, o + 3, none⟩) hb).trans h3,
  (hB.cell (p := ⟨b, o + 4, none⟩) hb).trans h4, (hB.cell (p := ⟨b, o + 5, none⟩) hb).trans h5, (hB.cell (p := ⟨b, o + 6, none⟩) hb).trans h6⟩
theorem wts_at {w : World} {A : Option Addr} {n c k : Nat} {l : List Wt} {x : Wt} (h : KR KW w A n c l) (hk : l[k]? = some x) : ∃ bl o B d, A = some ⟨bl, o, none⟩ ∧ k < n ∧ bl < w.heap.size ∧ At7 w bl (o + k * 7) B d x ∧ RowIs w B d x.m.gs := by
 obtain ⟨bl, o, B, d, h1, h2, h3, h4, h5⟩ := h.at_ hk
 exact ⟨bl, o, B, d, h1, h2, h3, at7_of h4, h5⟩
theorem wtsG_at {w : World} {b : Nat} {A : Option Addr} {n c k : Nat} {l : List Wt} {x : Wt} (h : KG KW w b A n c l) (hk : l[k]? = some x) : ∃ bl o B d, A = some ⟨bl, o, none⟩ ∧ k < n ∧ bl < w.heap.size ∧ At7 w bl (o + k * 7) B d x ∧ RowGe w b B d x.m.gs := by
 obtain ⟨bl, o, B, d, h1, h2, h3, h4, h5⟩ := h.at_ hk
 exact ⟨bl, o, B, d, h1, h2, h3, at7_of h4, h5⟩
def vsk (c : Int) (vw vd : Value) : Value := .agg #[.int .i64 c, vw, vd]
def SkIs (w : World) (v : Value) (s : Sk) : Prop := ∃ A c B d, v = vsk s.c (.slice A s.ws.length c) (.slice B s.ds.length d) ∧ KR KW w A s.ws.length c s.ws ∧ SpsIs w B s.ds.length d s.ds
theorem SkIs.below {w w' : World} {v : Value} {s : Sk} (h : SkIs w v s) (hb : Below w.heap.size w w') : SkIs w' v s := by
 obtain ⟨A, c, B, d, e, h1, h2⟩ := h
 exact ⟨A, c, B, d, e, h1.below hb, h2.below hb⟩
def SkO (w : World) (b : Nat) (v : Value) (s : Sk) : Prop := ∃ vw vd, v = vsk s.c vw vd ∧ KO KW w b 78 vw s.ws ∧ w.ownsRow b 46 2 vd s.ds.length (flat spc s.ds)
theorem SkO.below {w w' : World} {b : Nat} {v : Value} {s : Sk} (h : SkO w b v s) (hb : Below w.heap.size w w') : SkO w' b v s := by
 obtain ⟨vw, vd, e, h1, h2⟩ := h
 exact ⟨vw, vd, e, h1.below hb, own_below3 h2 hb⟩
theorem SkO.is {w : World} {b : Nat} {v : Value} {s : Sk} (h : SkO w b v s) : SkIs w v s := by
 obtain ⟨vw, vd, rfl, h1, h2⟩ := h
 obtain ⟨A, c, rfl, h3⟩ := h1.g
 obtain ⟨B, d, rfl, h4, h5⟩ := own_form h2
 exact ⟨A, c, B, d, rfl, h3.r, ⟨rdg_own h2, rfl, h4, h5⟩⟩
theorem skO_zero (w : World) (b : Nat) : SkO w b (.agg #[.int .i64 0, .slice none 0 0, .slice none 0 0]) KM.zero := ⟨_, _, rfl, kO_nil KW w b _, World.ownsRow_nil _ _ _ _⟩
theorem box_sk {w : World} {g : Nat} {t : TypeId} {a b c : Value} (h : Box w g t #[a, b, c]) : w.cell? ⟨g, 0, none⟩ = some a ∧ w.cell? ⟨g, 1, none⟩ = some b ∧ w.cell? ⟨g, 2, none⟩ = some c := ⟨h.cell 0, h.cell 1, h.cell 2⟩
theorem box_wt {w : World} {g : Nat} {t : TypeId} {a0 a1 a2 a3 a4 a5 a6 : Value} (h : Box w g t #[a0, a1, a2, a3, a4, a5, a6]) :
  w.cell? ⟨g, 0, none⟩ = some a0 ∧ w.cell? ⟨g, 1, none⟩ = some a1 ∧ w.cell? ⟨g, 2, none⟩ = some a2 ∧ w.cell? ⟨g, 3, none⟩ = some a3 ∧ w.cell? ⟨g, 4, none⟩ = some a4 ∧ w.cell? ⟨g, 5, none⟩ = some a5 ∧ w.cell? ⟨g, 6, none⟩ = some a6 :=
 ⟨h.cell 0, h.cell 1, h.cell 2, h.cell 3, h.cell 4, h.cell 5, h.cell 6⟩
end KP
namespace TP
open Go.RowKit
open TM (Sp)
theorem box_two {w : World} {g : Nat} {t : TypeId} {a b : Value} (h : Box w g t #[a, b]) : w.cell? ⟨g, 0, none⟩ = some a ∧ w.cell? ⟨g, 1, none⟩ = some b := ⟨h.cell 0, h.cell 1⟩
theorem rless_any (a b : Sp) (w : World) : Calls Tryz.prog 146 #[vsp a, vsp b] w (IsB (TM.less a b) w) := by
 obtain ⟨at_, ai⟩ := a
 obtain ⟨bt, bi⟩ := b
 unfold vsp
 have HB := h! (show Below w.heap.size w ((w.alloc (.cells #[.int .i64 at_, .int .i64 ai] 46)).alloc (.cells #[.int .i64 bt, .int .i64 bi] 46)) from
  ((Below.refl _ _).alloc n! _).alloc (by simp) _)
 have X := h! ((Box.new w 46 #[.int .i64 at_, .int .i64 ai]).alloc (.cells #[.int .i64 bt, .int .i64 bi] 46))
 have Y := h! (Box.new_at (w := w.alloc (.cells #[.int .i64 at_, .int .i64 ai] 46)) (t := 46) (cs := #[.int .i64 bt, .int .i64 bi]) (w.heap.size + 1) (by simp))
 simp only
 rcases (show at_ < bt ∨ (¬ at_ < bt ∧ at_ = bt ∧ ai < bi) ∨ (¬ at_ < bt ∧ at_ = bt ∧ ¬ ai < bi) ∨ (¬ at_ < bt ∧ at_ ≠ bt) by omega) with h | ⟨h0, h1, h⟩ | ⟨h0, h1, h⟩ | ⟨h0, h⟩
 ·rw [show TM.less ⟨at_, ai⟩ ⟨bt, bi⟩ = true from decide_eq_true (.inl h)]
  go_enter Tryz.func146, Tryz.ntmps146
  go_upto_region 1 with (fail)
  generalize (w.alloc (.cells #[.int .i64 at_, .int .i64 ai] 46)).alloc (.cells #[.int .i64 bt, .int .i64 bi] 46) = w1 at HB X Y ⊢
  generalize hg : w.heap.size = g at X Y ⊢
  clear hg
  obtain ⟨x0, x1⟩ := box_two X.out
  obtain ⟨y0, y1⟩ := box_two Y.out
  go_wp2_with fail
  go_ret
  exact ⟨rfl, HB.out⟩
 ·rw [show TM.less ⟨at_, ai⟩ ⟨bt, bi⟩ = true from decide_eq_true (.inr ⟨h1, h⟩)]
  have e1 : (at_ == bt) = true := by simpa using h1
  clear h1
  go_enter Tryz.func146, Tryz.ntmps146
  go_upto_region 1 with (fail)
  generalize (w.alloc (.cells #[.int .i64 at_, .int .i64 ai] 46)).alloc (.cells #[.int .i64 bt, .int .i64 bi] 46) = w1 at HB X Y ⊢
  generalize hg : w.heap.size = g at X Y ⊢
  clear hg
  obtain ⟨x0, x1⟩ := box_two X.out
  obtain ⟨y0, y1⟩ := box_two Y.out
  go_wp2_with fail
  go_ret
  exact ⟨rfl, HB.out⟩
 ·rw [show TM.less ⟨at_, ai⟩ ⟨bt, bi⟩ = false from decide_eq_false (fun g => by unfold TM.lt at g; simp only at g; omega)]
  have e1 : (at_ == bt) = true := by simpa using h1
  clear h1
  go_enter Tryz.func146, Tryz.ntmps146
  go_upto_region 1 with (fail)
  generalize (w.alloc (.cells #[.int .i64 at_, .int .i64 ai] 46)).alloc (.cells #[.int .i64 bt, .int .i64 bi] 46) = w1 at HB X Y ⊢
  generalize hg : w.heap.size = g at X Y ⊢
  clear hg
  obtain ⟨x0, x1⟩ := box_two X.out
  obtain ⟨y0, y1⟩ := box_two Y.out
  go_wp2_with fail
  go_ret
  exact ⟨rfl, HB.out⟩
 ·rw [show TM.less ⟨at_, ai⟩ ⟨bt, bi⟩ = false from decide_eq_false (fun g => by unfold TM.lt at g; simp only at g; omega)]
  have e1 : (at_ == bt) = false := by simpa using h
  clear h
  go_enter Tryz.func146, Tryz.ntmps146
  go_upto_region 1 with (fail)
  generalize (w.alloc (.cells #[.int .i64 at_, .int .i64 ai] 46)).alloc (.cells #[.int .i64 bt, .int .i64 bi] 46) = w1 at HB X Y ⊢
  generalize hg : w.heap.size = g at X Y ⊢
  clear hg
  obtain ⟨x0, x1⟩ := box_two X.out
  obtain ⟨y0, y1⟩ := box_two Y.out
  go_wp2_with fail
  go_ret
  exact ⟨rfl, HB.out⟩
end TP
end Go.Proofs.YteebeiaokfenmaaGreat
