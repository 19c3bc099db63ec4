/-
  What a beginning of a log makes begins what all of it makes; a final time is the greatest of all groups'; a final of it leaves logs honest (no program). Conditions: as each theorem says.
  What package order reckons of logs is what the document says: times by what an assign does, finals that do something, messages found by ids (no program). Conditions: as each theorem says.
  A row of ints that lies from a block on. No walk.
  Stamps in memory: by value, two cells an element in a row. No walk, no program.
  Seven, five cells of a block stored, one behind the other. No walk, no program.
  Twelve cells of a block stored, one behind the other. No walk, no program.
  Words for memory: copy in a block known whole, elements of s cells; what an insertion leaves. No walk.
  What lasts of a node in memory: rows of rows of texts, rows of votes at their places. No walk, no program.
  Arguments opened to cells: rows of structs of s cells (parted from ArgCells). Conditions: as each theorem says.
-/
import Derived.Test.YteebeiaokfenmaaGreatK01
import Derived.Test.YteebeiaokfenmaaGreatK06
import Derived.Test.YteebeiaokfenmaaGreatK04
import Derived.Lib.Hide
import Derived.Laws.IdiomCopy
import Derived.Lib.AppendZerosOnto
import Derived.Lib.Overlaps
import Derived.Shelf.RegionOpenPlain
import Derived.Test.YteebeiaokfenmaaGreatK02
import Derived.Test.YteebeiaokfenmaaGreatProg
import Derived.Test.YteebeiaokfenmaaGreatRows
import Derived.Lib.SmallJoins
import Derived.OpenShut
import Derived.Deep.Slices
import Derived.Deep.Fields
import Derived.ChangeSame
namespace Go.Proofs.YteebeiaokfenmaaGreat.OM
open CM (Mg Cm)
open TM (Sp less ok Up rises)
open KM
set_option linter.unusedVariables false
set_option linter.unusedSimpArgs false
structure Bg (x y : Sk × List Mg × List (Int × Mg)) : Prop where
 ds : ∃ D, y.1.ds = x.1.ds ++ D
 out : ∃ O, y.2.1 = x.2.1 ++ O
 tm : ∃ T, y.2.2 = x.2.2 ++ T
 c : x.1.c ≤ y.1.c
theorem Bg.refl (x : Sk × List Mg × List (Int × Mg)) : Bg x x := ⟨⟨[], by simp⟩, ⟨[], by simp⟩, ⟨[], by simp⟩, Int.le_refl _⟩
theorem Bg.trans {x y z : Sk × List Mg × List (Int × Mg)} (h : Bg x y) (k : Bg y z) : Bg x z := by
 obtain ⟨⟨D, d⟩, ⟨O, o⟩, ⟨T, t⟩, c⟩ := h
 obtain ⟨⟨D', d'⟩, ⟨O', o'⟩, ⟨T', t'⟩, c'⟩ := k
 exact ⟨⟨D ++ D', by rw [d', d]; simp⟩, ⟨O ++ O', by rw [o', o]; simp⟩, ⟨T ++ T', by rw [t', t]; simp⟩, Int.le_trans c c'⟩
section
variable {g : Int} {l a b : List Cm} {c : Cm}
theorem bg_next (hg : 0 ≤ g ∧ g < 4) (hc : CM.may c) (h : Inv g l) : Bg (play g l) (play g (l ++ [c])) := by
 have hm := one_may (g := g) (c := c) h.m hg hc
 rw [play_snoc]
 refine ⟨?_, ⟨_, rfl⟩, ⟨_, rfl⟩, hm.2⟩
 show ∃ D, (one (play g l).1 g c).1.ds = _
 cases does (g := g) (c := c) h.m hg hc with
 | no ho => rw [ho]; exact ⟨[], by simp⟩
 | asg _ _ ho => rw [ho]; exact ⟨[], by simp⟩
 | fin _ w _ _ _ rest gone ho => rw [ho]; exact ⟨_, rfl⟩
theorem bg_rev (hg : 0 ≤ g ∧ g < 4) : ∀ r : List Cm, (∀ c ∈ a ++ r.reverse, CM.may c) → Bg (play g a) (play g (a ++ r.reverse))
 | [], _ => by simpa using Bg.refl _
 | c :: r, h => by
  have e : a ++ (c :: r).reverse = (a ++ r.reverse) ++ [c] := by simp
  rw [e] at h ⊢
  have h1 : ∀ d ∈ a ++ r.reverse, CM.may d := fun d hd => h d (List.mem_append_left _ hd)
  exact (bg_rev hg r h1).trans (bg_next hg (h c (by simp)) (inv hg h1))
theorem begins (hg : 0 ≤ g ∧ g < 4) (h : ∀ c ∈ a ++ b, CM.may c) : Bg (play g a) (play g (a ++ b)) := by
 have := bg_rev (a := a) hg b.reverse (by rwa [List.reverse_reverse])
 rwa [List.reverse_reverse] at this
theorem times_fin (hg : 0 ≤ g ∧ g < 4) (hc : CM.may c) (hk : c.k = 2) (h : Inv g l) : (play g (l ++ [c])).2.2 = (play g l).2.2 := by
 have e3 : (play g (l ++ [c])).2.2 = (play g l).2.2 ++ tm1 (play g l).1 (one (play g l).1 g c).1 c := by rw [play_snoc]; rfl
 rw [e3]
 have : tm1 (play g l).1 (one (play g l).1 g c).1 c = [] := by
  cases does (g := g) (c := c) h.m hg hc with
  | no ho => rw [ho]; unfold tm1; rw [if_neg (Nat.lt_irrefl _)]
  | asg ha _ ho => exact absurd ha.1 (by omega)
  | fin _ w _ _ _ rest gone ho _ _ _ hl => rw [ho]; unfold tm1; rw [if_neg (by show ¬ _ < rest.length; omega)]
 rw [this, List.append_nil]
end
theorem mg_groups {m : Mg} (h : CM.mgOk m) : m.gs ≠ [] ∧ ∀ g ∈ m.gs, 0 ≤ g ∧ g < 4 := ⟨h.2.1, fun g hg => by have := CM.riseG_mem h.2.2.1 g hg; omega⟩
section
variable {L : List (List Cm)} {x : Mg} {t : Int}
theorem lg_get {g : Int} (h0 : 0 ≤ g) (h1 : g < L.length) : ∃ l, L[g.toNat]? = some l ∧ lg L g = l := by
 have hl : g.toNat < L.length := by omega
 exact ⟨_, List.getElem?_eq_getElem hl, by unfold lg; rw [if_pos h0, List.getD_eq_getElem?_getD, List.getElem?_eq_getElem hl]; rfl⟩
theorem tg_inv (hL : Logs L) {g : Int} (h0 : 0 ≤ g) (h1 : g < L.length) : Inv g (lg L g) := by
 obtain ⟨l, hl, e⟩ := lg_get h0 h1
 rw [e]
 have := hL.inv hl
 rwa [Int.toNat_of_nonneg h0] at this
theorem final_most (hL : Logs L) (hx : CM.mgOk x) (h : lastF L x = (t, true)) {g : Int} (hg : g ∈ x.gs) {p : Int × Mg} (hp : p ∈ tg L g) (hi : p.2.id = x.id) : p.1 ≤ t := by
 obtain ⟨k1, _, _⟩ := lastG_true h
 obtain ⟨k2, k3, k4⟩ := k1 g hg
 have hI := tg_inv hL ((mg_groups hx).2 g hg).1 k2
 rcases tOf_cases (tg L g) x with ⟨q, _⟩ | q
 ·exact absurd q k3
 have := nd_eq hI.nd hp q hi
 rw [this]
 exact k4
theorem final_is (hL : Logs L) (hx : CM.mgOk x) (h : lastF L x = (t, true)) : ∃ g ∈ x.gs, (t, x) ∈ tg L g := by
 obtain ⟨k1, _, k3⟩ := lastG_true h
 have key : ∀ g ∈ x.gs, (tOf (tg L g) x, x) ∈ tg L g := fun g hg => by
  rcases tOf_cases (tg L g) x with ⟨q, _⟩ | q
  ·exact absurd q (k1 g hg).2.1
  ·exact q
 rcases k3 with k3 | ⟨g, hg, e⟩
 ·obtain ⟨g, r, e⟩ := List.exists_cons_of_ne_nil (mg_groups hx).1
  have hg : g ∈ x.gs := by rw [e]; exact List.mem_cons_self ..
  refine ⟨g, hg, ?_⟩
  have h0 := (k1 g hg).2.2
  have h1 := key g hg
  have h2 := ((tg_inv hL ((mg_groups hx).2 g hg).1 (k1 g hg).1).tm _ h1).1
  simp only at h2
  omega
 ·exact ⟨g, hg, by rw [← e]; exact key g hg⟩
theorem lastG_congr {L' : List (List Cm)} (hl : L'.length = L.length) (ht : ∀ g, tg L' g = tg L g) : ∀ (gs : List Int) (most : Int), lastG L' x gs most = lastG L x gs most
 | [], _ => rfl
 | g :: r, most => by unfold lastG; rw [hl, ht, lastG_congr hl ht r]
theorem final_honest (hL : Logs L) (hH : honest L) (hx : CM.mgOk x) (h : lastF L x = (t, true)) {g : Nat} {l : List Cm} (hg : L[g]? = some l) {c : Cm} (hc : CM.may c) (hk : c.k = 2) (hci : c.id = x.id) (hct : c.tm = t) : honest (L.set g (l ++ [c])) := by
 have hgl := (List.getElem?_eq_some_iff.1 hg).1
 have hg4 := hL.1
 have hI := hL.inv hg
 have htf := times_fin (by omega) hc hk hI
 have hlen : (L.set g (l ++ [c])).length = L.length := List.length_set
 have ht : ∀ q, tg (L.set g (l ++ [c])) q = tg L q := fun q => by
  unfold tg lg
  by_cases hq : 0 ≤ q
  rotate_left
  ·rw [if_neg hq, if_neg hq]
  rw [if_pos hq, if_pos hq, List.getD_eq_getElem?_getD, List.getD_eq_getElem?_getD, List.getElem?_set]
  by_cases e : g = q.toNat
  ·rw [if_pos e, if_pos hgl, ← e, hg]
   show (play q (l ++ [c])).2.2 = (play q l).2.2
   obtain rfl : q = (g : Int) := by omega
   exact htf
  ·rw [if_neg e]
 have hla : ∀ m, lastF (L.set g (l ++ [c])) m = lastF L m := fun m => by unfold lastF; exact lastG_congr hlen ht _ _
 refine ⟨fun a b ha hb p hp q hq => ?_, fun q l' hq k d hd => ?_⟩
 ·rw [ht] at hp hq
  exact hH.1 a b (by omega) (by omega) p hp q hq
 ·unfold fair1
  rw [List.getElem?_set] at hq
  by_cases e : g = q
  ·subst e
   rw [if_pos rfl, if_pos hgl] at hq
   injection hq with hq
   subst hq
   have hkl := (List.getElem?_eq_some_iff.1 hd).1
   rw [List.length_append, List.length_singleton] at hkl
   by_cases hk2 : k < l.length
   ·rw [List.getElem?_append_left hk2] at hd
    rw [take_snoc (by omega), take_snoc (by omega)]
    intro h1 y h2 h3 h4 h5
    rw [hla]
    exact hH.2 g l hg k d hd h1 y h2 h3 h4 h5
   ·obtain rfl : k = l.length := by omega
    rw [List.getElem?_append_right n!] at hd
    simp at hd
    subst hd
    rw [take_snoc n!, List.take_length]
    intro h1 y h2 h3 h4 _
    obtain ⟨y', hy', hyi⟩ := wat_some (List.getElem?_eq_some_iff.1 h2).1
    rw [h2] at hy'
    injection hy' with hy'
    subst hy'
    obtain ⟨ty, hty, _⟩ := hI.ws y (List.mem_of_getElem? h2)
    obtain ⟨g0, hg0, hx0⟩ := final_is hL hx h
    obtain ⟨k1, _, _⟩ := lastG_true h
    have hb0 := ((mg_groups hx).2 g0 hg0).1
    have hb1 := (k1 g0 hg0).1
    have hy := hH.1 g g0.toNat hgl (by omega) (ty, y.m) (by unfold tg; rw [lg_at hg]; exact hty) (t, x) (by rw [Int.toNat_of_nonneg hb0]; exact hx0) (by show y.m.id = x.id; rw [hyi, hci])
    simp only at hy
    rw [hla, hy, h, hct]
  ·rw [if_neg e] at hq
   intro h1 y h2 h3 h4 h5
   rw [hla]
   exact hH.2 q l' hq k d hd h1 y h2 h3 h4 h5
end
end Go.Proofs.YteebeiaokfenmaaGreat.OM

namespace Go.Proofs.YteebeiaokfenmaaGreat.OM
open CM (Mg Cm)
open TM (Sp less ok Up rises)
open KM
set_option linter.unusedVariables false
set_option linter.unusedSimpArgs false
theorem tm1_is {s : Sk} {g : Int} {c : Cm} (hm : may s) (hg : 0 ≤ g ∧ g < 4) (hc : CM.may c) : tm1 s (one s g c).1 c = if c.k = 1 ∧ (one s g c).1 ≠ s then [((one s g c).1.c, c.m)] else [] := by
 cases does (g := g) (c := c) hm hg hc with
 | no h => rw [h]; unfold tm1; rw [if_neg (Nat.lt_irrefl _), if_neg (fun k => k.2 rfl)]
 | asg ha hf h =>
  have hl := ins_len (w := ⟨c.m, s.c + 1, false⟩) (wat_no.1 ha.2.1)
  rw [h]
  unfold tm1
  rw [if_pos (by show _ < (ins s.ws ⟨c.m, s.c + 1, false⟩).length; omega), if_pos ⟨ha.1, fun e => by have := congrArg (fun s => s.ws.length) e; simp only at this; omega⟩]
 | fin hk w hw hf ht rest gone h _ _ _ hl => rw [h]; unfold tm1; rw [if_neg (by show ¬ _ < rest.length; omega), if_neg (fun k => by have := k.1; omega)]
def fin1 (s s' : Sk) (c : Cm) : List Cm := if c.k = 2 ∧ s' ≠ s then [c] else []
def nf (g : Int) (r : Sk × List Cm) (c : Cm) : Sk × List Cm := ((one r.1 g c).1, r.2 ++ fin1 r.1 (one r.1 g c).1 c)
def playf (g : Int) (l : List Cm) : Sk × List Cm := l.foldl (nf g) (KM.zero, [])
def fins (g : Int) (l : List Cm) : List Cm := (playf g l).2
theorem playf_snoc (g : Int) (l : List Cm) (c : Cm) : playf g (l ++ [c]) = nf g (playf g l) c := by unfold playf; rw [List.foldl_append]; rfl
theorem playf_rev (g : Int) : ∀ r : List Cm, (playf g r.reverse).1 = (play g r.reverse).1
 | [] => rfl
 | c :: r => by rw [List.reverse_cons, playf_snoc, play_snoc]; unfold nf nx; simp only; rw [playf_rev g r]
theorem playf_fst (g : Int) (l : List Cm) : (playf g l).1 = (play g l).1 := by have := playf_rev g l.reverse; rwa [List.reverse_reverse] at this
theorem fins_snoc (g : Int) (l : List Cm) (c : Cm) : fins g (l ++ [c]) = fins g l ++ fin1 (play g l).1 (one (play g l).1 g c).1 c := by unfold fins; rw [playf_snoc, ← playf_fst]; rfl
theorem fins_rev (g : Int) (c : Cm) : ∀ r : List Cm, c ∈ fins g r.reverse ↔ ∃ k, r.reverse[k]? = some c ∧ c.k = 2 ∧ (play g (r.reverse.take (k + 1))).1 ≠ (play g (r.reverse.take k)).1
 | [] => by
  constructor
  ·intro h; cases h
  ·rintro ⟨k, h, _⟩; cases h
 | d :: r => by
  rw [List.reverse_cons, fins_snoc, List.mem_append, fins_rev g c r]
  constructor
  ·rintro (⟨k, h1, h2, h3⟩ | h)
   ·have hk := (List.getElem?_eq_some_iff.1 h1).1
    exact ⟨k, by rw [List.getElem?_append_left hk]; exact h1, h2, by rw [take_snoc (by omega), take_snoc (by omega)]; exact h3⟩
   ·unfold fin1 at h
    split at h
    ·rename_i hh
     obtain rfl := List.mem_singleton.1 h
     refine ⟨r.reverse.length, by simp, hh.1, ?_⟩
     rw [take_snoc n!, take_self, List.take_length, play_snoc]
     exact hh.2
    ·cases h
  ·rintro ⟨k, h1, h2, h3⟩
   have hk := (List.getElem?_eq_some_iff.1 h1).1
   rw [List.length_append, List.length_singleton] at hk
   by_cases hkl : k < r.reverse.length
   ·left
    rw [List.getElem?_append_left hkl] at h1
    rw [take_snoc (by omega), take_snoc (by omega)] at h3
    exact ⟨k, h1, h2, h3⟩
   ·right
    obtain rfl : k = r.reverse.length := by omega
    rw [List.getElem?_append_right n!] at h1
    simp at h1
    subst h1
    rw [take_snoc n!, take_self, List.take_length, play_snoc] at h3
    unfold fin1
    rw [if_pos ⟨h2, h3⟩]
    exact List.mem_singleton.2 rfl
theorem mem_fins {g : Int} {l : List Cm} {c : Cm} : c ∈ fins g l ↔ ∃ k, l[k]? = some c ∧ c.k = 2 ∧ (play g (l.take (k + 1))).1 ≠ (play g (l.take k)).1 := by have := fins_rev g c l.reverse; rwa [List.reverse_reverse] at this
def fd (T : List (Int × Mg)) (id : Int) : Option (Int × Mg) := T.find? fun p => p.2.id == id
theorem fd_some {T : List (Int × Mg)} {id : Int} {p : Int × Mg} (h : fd T id = some p) : p ∈ T ∧ p.2.id = id := ⟨List.mem_of_find?_eq_some h, by simpa using List.find?_some h⟩
theorem fd_none {T : List (Int × Mg)} {id : Int} (h : fd T id = none) : ∀ p ∈ T, p.2.id ≠ id := fun p hp => by simpa using List.find?_eq_none.1 h p hp
theorem fd_of {T : List (Int × Mg)} (hn : (T.map (fun p => p.2.id)).Nodup) {p : Int × Mg} (hp : p ∈ T) : fd T p.2.id = some p := by
 rcases h : fd T p.2.id with _ | q
 ·exact absurd rfl (fd_none h p hp)
 ·rw [nd_eq hn (fd_some h).1 hp (fd_some h).2]
theorem tOf_fd {T : List (Int × Mg)} (hn : (T.map (fun p => p.2.id)).Nodup) {m : Mg} {p : Int × Mg} (h : fd T m.id = some p) : tOf T m = if p.2 = m then p.1 else 0 := by
 obtain ⟨h1, h2⟩ := fd_some h
 by_cases e : p.2 = m
 ·rw [if_pos e]
  rcases tOf_cases T m with ⟨_, k⟩ | k
  ·exact absurd e (k p h1)
  ·have := nd_eq hn k h1 h2.symm
   rw [← this]
 ·rw [if_neg e]
  rcases tOf_cases T m with ⟨k, _⟩ | k
  ·exact k
  ·have := nd_eq hn k h1 h2.symm
   rw [← this] at e
   exact absurd rfl e
theorem tOf_fd0 {T : List (Int × Mg)} {m : Mg} (h : fd T m.id = none) : tOf T m = 0 := by
 rcases tOf_cases T m with ⟨k, _⟩ | k
 ·exact k
 ·exact absurd rfl (fd_none h _ k)
def fdm (T : List (Int × Mg)) (id : Int) : Mg := ((fd T id).getD (0, CM.mz)).2
def oneB (L : List (List Cm)) : Prop := ∀ g h : Nat, h < g → g < L.length → ∀ p ∈ tg L g, ∀ q, fd (tg L h) p.2.id = some q → q.2 = p.2
def finB (L : List (List Cm)) : Prop := ∀ g : Nat, g < L.length → ∀ c ∈ fins g (lg L g), lastF L (fdm (tg L g) c.id) = (c.tm, true)
section
variable {L : List (List Cm)}
theorem Logs.inv2 (hL : Logs L) {g : Nat} (h : g < L.length) : Inv g (lg L g) := by
 rw [lg_at (List.getElem?_eq_getElem h)]
 exact hL.inv (List.getElem?_eq_getElem h)
theorem one_iff (hL : Logs L) : oneB L ↔ one1 L := by
 constructor
 ·intro H g h hg hh p hp q hq e
  rcases Nat.lt_trichotomy g h with k | rfl | k
  ·exact H h g k hh q hq p (by rw [← e]; exact fd_of (hL.inv2 hg).nd hp)
  ·rw [nd_eq (hL.inv2 hg).nd hp hq e]
  ·exact (H g h k hg p hp q (by rw [e]; exact fd_of (hL.inv2 hh).nd hq)).symm
 ·intro H g h hk hg p hp q hq
  obtain ⟨h1, h2⟩ := fd_some hq
  exact (H g h hg (by omega) p hp q h1 h2.symm).symm
theorem fin_at (hL : Logs L) {g : Nat} {l : List Cm} (hg : L[g]? = some l) {k : Nat} {c : Cm} (h1 : l[k]? = some c) (h2 : c.k = 2) (h3 : (play g (l.take (k + 1))).1 ≠ (play g (l.take k)).1) :
  ∃ y, (play g (l.take k)).1.ws[wat (play g (l.take k)).1.ws c.id]? = some y ∧ y.f = false ∧ y.t ≤ c.tm ∧ fdm (tg L g) c.id = y.m := by
 have hgl := (List.getElem?_eq_some_iff.1 hg).1
 have hg4 := hL.1
 have hkl := (List.getElem?_eq_some_iff.1 h1).1
 have hall := hL.2 l (List.mem_of_getElem? hg)
 have hk : l.take (k + 1) = l.take k ++ [c] := by rw [List.take_add_one, h1]; rfl
 have hI : Inv g (l.take k) := inv (by omega) fun d hd => hall d (List.mem_of_mem_take hd)
 rw [hk, play_snoc] at h3
 cases does (g := (g : Int)) (c := c) hI.m (by omega) (hall c (List.mem_of_getElem? h1)) with
 | no h => exact absurd (congrArg Prod.fst h) h3
 | asg ha _ _ => exact absurd ha.1 (by omega)
 | fin _ w hw hf ht =>
  refine ⟨w, hw, hf, ht, ?_⟩
  obtain ⟨y', hy', hyi⟩ := wat_some (List.getElem?_eq_some_iff.1 hw).1
  rw [hw] at hy'
  injection hy' with hy'
  subst hy'
  obtain ⟨t, ht1, _⟩ := hI.ws w (List.mem_of_getElem? hw)
  obtain ⟨T, hT⟩ := (begins (g := (g : Int)) (a := l.take k) (b := l.drop k) (by omega) (by rw [List.take_append_drop]; exact hall)).tm
  rw [List.take_append_drop] at hT
  have hm : (t, w.m) ∈ tg L g := by unfold tg; rw [lg_at hg, hT]; exact List.mem_append_left _ ht1
  have := fd_of (T := tg L g) (by have := (hL.inv2 hgl).nd; exact this) hm
  simp only at this
  rw [hyi] at this
  unfold fdm
  rw [this]
  rfl
theorem honest_iff (hL : Logs L) : honest L ↔ oneB L ∧ finB L := by
 constructor
 ·rintro ⟨H1, H2⟩
  refine ⟨(one_iff hL).2 H1, fun g hg c hc => ?_⟩
  have hl := List.getElem?_eq_getElem hg
  rw [lg_at hl] at hc
  obtain ⟨k, h1, h2, h3⟩ := mem_fins.1 hc
  obtain ⟨y, y1, y2, y3, y4⟩ := fin_at hL hl h1 h2 h3
  rw [y4]
  exact H2 g _ hl k c h1 h2 y y1 y2 y3 h3
 ·rintro ⟨H1, H2⟩
  refine ⟨(one_iff hL).1 H1, fun g l hg k c h1 h2 y y1 y2 y3 h3 => ?_⟩
  have hgl := (List.getElem?_eq_some_iff.1 hg).1
  obtain ⟨z, z1, _, _, z4⟩ := fin_at hL hg h1 h2 h3
  rw [y1] at z1
  injection z1 with z1
  subst z1
  have := H2 g hgl c (by rw [lg_at hg]; exact mem_fins.2 ⟨k, h1, h2, h3⟩)
  rwa [z4] at this
end
end Go.Proofs.YteebeiaokfenmaaGreat.OM

namespace Go.Proofs.YteebeiaokfenmaaGreat.CP
open Go.RowKit
open CM (Mg Cm)
set_option linter.unusedVariables false
set_option linter.unusedSimpArgs false
def Tn (b : Nat) (W : World) (M : Option Addr) (k : Nat) : Prop := 0 < k → ∃ g cur, M = some ⟨g, 0, none⟩ ∧ b ≤ g ∧ Box W g 3 cur ∧ k ≤ cur.size
theorem Tn.below {b : Nat} {W W' : World} {M : Option Addr} {k : Nat} (h : Tn b W M k) (hb : Below W.heap.size W W') : Tn b W' M k := fun h0 => by
 obtain ⟨g, cur, e, h1, h2, h3⟩ := h h0
 exact ⟨g, cur, e, h1, h2.below hb h2.lt, h3⟩
theorem Tn.mono {b b' : Nat} {W : World} {M : Option Addr} {k : Nat} (h : Tn b W M k) (hb : b' ≤ b) : Tn b' W M k := fun h0 => by
 obtain ⟨g, cur, e, h1, h2, h3⟩ := h h0
 exact ⟨g, cur, e, Nat.le_trans hb h1, h2, h3⟩
theorem Tn.grown {b : Nat} {W W' : World} {M : Option Addr} {k : Nat} {r : Option Nat} (h : Tn b W M k) (hg : W.grownBy W' r) (hr : ∀ ad, M = some ad → 0 < k → r ≠ some ad.block) : Tn b W' M k := fun h0 => by
 obtain ⟨g, cur, e, h1, h2, h3⟩ := h h0
 exact ⟨g, cur, e, h1, h2.grown hg (fun q => hr _ e h0 q.symm), h3⟩
theorem tn_own {w : World} {b n : Nat} {A : Option Addr} {c : Nat} {l : List Int} (h : w.ownsRow b 3 1 (.slice A n c) n (ic l)) (hn : n = l.length) : Tn b w A l.length := fun h0 => by
 subst hn
 obtain ⟨g, cap, hv, hbg, hlt⟩ := h.form h0
 injection hv with e1 e2 e3
 subst e1
 obtain ⟨_, cur, hc⟩ := own_block h (g := g) rfl
 refine ⟨g, cur, rfl, hbg, hc, ?_⟩
 rcases Nat.lt_or_ge cur.size l.length with k | k
 ·exfalso
  have hcs := h.cells (g := g) rfl
  have hkl : cur.size < (ic l).length := by rw [ic_length]; exact k
  have := hcs cur.size (ic l)[cur.size] (List.getElem?_eq_getElem hkl)
  have e2 : (⟨g, 0, none⟩ : Addr).add cur.size = ⟨g, cur.size, none⟩ := by unfold Addr.add; split <;> simp_all
  rw [e2, hc.cell] at this
  simp at this
 ·exact k
structure RowGe (w : World) (b : Nat) (A : Option Addr) (c : Nat) (l : List Int) : Prop where
 is : RowIs w A c l
 ge : ∀ ad, A = some ad → 0 < l.length → b ≤ ad.block
 tn : Tn b w A l.length
theorem rowGe_own {w : World} {b n : Nat} {A : Option Addr} {c : Nat} {l : List Int} (h : w.ownsRow b 3 1 (.slice A n c) n (ic l)) (hn : n = l.length) (h1 : l.length ≤ c) (h2 : c ≤ maxLen) : RowGe w b A c l := by
 have ht := tn_own h hn
 subst hn
 refine ⟨⟨Rd.of_own h, h1, h2⟩, fun ad e _ => ?_, ht⟩
 rcases h.2 with ⟨hv, _⟩ | ⟨g', cap, cur, hv, hb, _⟩
 ·injection hv with hv; rw [hv] at e; cases e
 ·injection hv with hv; rw [hv] at e; injection e with e; rw [← e]; exact hb
theorem RowGe.set {w : World} {b : Nat} {A : Option Addr} {c : Nat} {l : List Int} (h : RowGe w b A c l) {g i : Nat} (hg : g < b) (v : Value) : RowGe (w.setCell ⟨g, i, none⟩ v) b A c l := by
 refine ⟨⟨⟨h.1.1.1, fun hn => ?_⟩, h.1.2⟩, h.2, fun h0 => ?_⟩
 ·obtain ⟨ad, e, hB, hc⟩ := h.1.1.2 hn
  have hb := h.2 ad e hn
  refine ⟨ad, e, by simpa using hB, fun j u hu => ?_⟩
  exact (World.cell?_of_block (Below.heap_setCell w ⟨g, i, none⟩ v (ad.add j).block (by rw [block_of_add]; show ad.block ≠ g; omega))).trans (hc j u hu)
 ·obtain ⟨g', cur, e, h1, h2, h3⟩ := h.3 h0
  exact ⟨g', cur, e, h1, h2.far (p := ⟨g, i, none⟩) (by show g' ≠ g; omega) v, h3⟩
section
variable {w w' : World} {b : Nat} {A : Option Addr} {c : Nat} {L : List Int}
theorem RowGe.below (hr : RowGe w b A c L) (hb : Below w.heap.size w w') : RowGe w' b A c L := ⟨hr.1.below hb, hr.2, hr.3.below hb⟩
theorem RowGe.mono {b' : Nat} (hr : RowGe w b A c L) (hb : b' ≤ b) : RowGe w b' A c L := ⟨hr.1, fun ad e hn => Nat.le_trans hb (hr.2 ad e hn), hr.3.mono hb⟩
theorem RowGe.none (w : World) (b : Nat) : RowGe w b .none 0 [] := ⟨RowIs.none w, (fun _ e => by cases e), fun h => absurd h (Nat.lt_irrefl 0)⟩
def CmGe (w : World) (b : Nat) (v : Value) (x : Cm) : Prop := ∃ A c B d, v = .agg (ccells A c B d x) ∧ RowGe w b A c x.m.gs ∧ RowGe w b B d x.ms
theorem zero_ge (w : World) (b : Nat) : CmGe w b (.agg #[.int .u8 0, .int .i64 0, .slice .none 0 0, .int .i64 0, .string .empty, .string .empty, .int .i64 0, .int .i64 0, .slice .none 0 0, .int .i64 0, .int .i64 0, .int .i64 0]) CM.zero := ⟨.none, 0, .none, 0, rfl, RowGe.none w b, RowGe.none w b⟩
end
end Go.Proofs.YteebeiaokfenmaaGreat.CP

namespace Go.Proofs.YteebeiaokfenmaaGreat.TP
open Go.RowKit
open TM (Sp)
set_option linter.unusedVariables false
set_option linter.unusedSimpArgs false
def vsp (a : Sp) : Value := .agg #[.int .i64 a.t, .int .i64 a.i]
def spc (a : Sp) : List Value := [.int .i64 a.t, .int .i64 a.i]
theorem spc_one (a : Sp) : ∀ u ∈ spc a, u.oneCell' = true := by intro u hu; simp [spc] at hu; rcases hu with rfl | rfl <;> rfl
theorem spc_len (l : List Sp) : ∀ a ∈ l, (spc a).length = 2 := fun _ _ => rfl
theorem flat_spc (l : List Sp) : (flat spc l).length = l.length * 2 := flat_length (spc_len l)
theorem flat_spc_one (l : List Sp) : ∀ u ∈ flat spc l, u.oneCell' = true := by
 intro u hu
 unfold flat at hu
 obtain ⟨a, _, ha⟩ := List.mem_flatMap.1 hu
 exact spc_one a u ha
theorem add_none (bl o j : Nat) : (⟨bl, o, none⟩ : Addr).add j = ⟨bl, o + j, none⟩ := by unfold Addr.add; split <;> simp_all
theorem spot_none {w : World} {a : Addr} {v : Value} (h : w.cell? a = some v) : a.spot = none := by
 unfold World.cell? at h
 split at h
 ·split at h
  ·cases h
  ·rename_i hn
   cases hs : a.spot
   ·rfl
   ·simp [hs] at hn
 ·cases h
def SpsIs (w : World) (A : Option Addr) (n c : Nat) (l : List Sp) : Prop := RdG w 2 A n (flat spc l) ∧ l.length = n ∧ n ≤ c ∧ c ≤ maxLen
theorem SpsIs.below {w w' : World} {A : Option Addr} {n c : Nat} {l : List Sp} (h : SpsIs w A n c l) (hb : Below w.heap.size w w') : SpsIs w' A n c l := ⟨h.1.below hb, h.2⟩
theorem SpsIs.small {w : World} {A : Option Addr} {n c : Nat} {l : List Sp} (h : SpsIs w A n c l) : n ≤ 9223372036854775807 := by
 have h1 := h.2.2.1
 have h2 := h.2.2.2
 unfold maxLen at h2
 omega
theorem SpsIs.at_ {w : World} {A : Option Addr} {n c k : Nat} {l : List Sp} {a : Sp} (h : SpsIs w A n c l) (hk : l[k]? = some a) :
  ∃ bl o, A = some ⟨bl, o, none⟩ ∧ k < n ∧ bl < w.heap.size ∧ w.cell? ⟨bl, o + k * 2, none⟩ = some (.int .i64 a.t) ∧ w.cell? ⟨bl, o + k * 2 + 1, none⟩ = some (.int .i64 a.i) := by
 have hkl := (List.getElem?_eq_some_iff.1 hk).1
 have hl := h.2.1
 obtain ⟨ad, e, hb, hc⟩ := h.1.2 (by omega)
 have g0 := hc (k * 2 + 0) _ (by rw [flat_get (spc_len l) hk 0 (by omega)]; rfl)
 have g1 := hc (k * 2 + 1) _ (by rw [flat_get (spc_len l) hk 1 (by omega)]; rfl)
 have hsp : ad.spot = none := by
  have hp : 0 < (flat spc l).length := by rw [flat_spc]; omega
  have h0 := hc 0 _ (List.getElem?_eq_getElem hp)
  rw [show ad.add 0 = ad from by simp [Addr.add]] at h0
  exact spot_none h0
 obtain ⟨bl, o, sp⟩ := ad
 simp only at hsp
 subst hsp
 rw [add_none] at g0 g1
 exact ⟨bl, o, e, by omega, hb, g0, g1⟩
def IsB (b : Bool) (w : World) (e : Ending) (w' : World) : Prop := e = .returned (.bool b) ∧ Below w.heap.size w w'
def IsN (y : Int) (w : World) (e : Ending) (w' : World) : Prop := e = .returned (.int .i64 y) ∧ Below w.heap.size w w'
end Go.Proofs.YteebeiaokfenmaaGreat.TP

namespace Go.Proofs.YteebeiaokfenmaaGreat.KP
open Go.RowKit
set_option linter.unusedVariables false
set_option linter.unusedSimpArgs false
def pt7 (w : World) (g : Nat) (a0 a1 a2 a3 a4 a5 a6 : Value) : World := ((((((w.setCell ⟨g, 0, none⟩ a0).setCell ⟨g, 1, none⟩ a1).setCell ⟨g, 2, none⟩ a2).setCell ⟨g, 3, none⟩ a3).setCell ⟨g, 4, none⟩ a4).setCell ⟨g, 5, none⟩ a5).setCell ⟨g, 6, none⟩ a6
section
variable {w u : World} {B g g' : Nat} {t : TypeId}
theorem pt7_box {b0 b1 b2 b3 b4 b5 b6 : Value} (h : Box w g t #[b0, b1, b2, b3, b4, b5, b6]) (a0 a1 a2 a3 a4 a5 a6 : Value) : Box (pt7 w g a0 a1 a2 a3 a4 a5 a6) g t #[a0, a1, a2, a3, a4, a5, a6] := by
 have := ((((((h.stored 0 a0).stored 1 a1).stored 2 a2).stored 3 a3).stored 4 a4).stored 5 a5).stored 6 a6
 simpa [pt7] using this
theorem pt7_far {cs : Array Value} (h : Box w g' t cs) (hg : g' ≠ g) (a0 a1 a2 a3 a4 a5 a6 : Value) : Box (pt7 w g a0 a1 a2 a3 a4 a5 a6) g' t cs :=
 ((((((h.far (p := ⟨g, 0, none⟩) hg a0).far (p := ⟨g, 1, none⟩) hg a1).far (p := ⟨g, 2, none⟩) hg a2).far (p := ⟨g, 3, none⟩) hg a3).far (p := ⟨g, 4, none⟩) hg a4).far (p := ⟨g, 5, none⟩) hg a5).far (p := ⟨g, 6, none⟩) hg a6
theorem pt7_below (h : Below B u w) (hg : B ≤ g) (a0 a1 a2 a3 a4 a5 a6 : Value) : Below B u (pt7 w g a0 a1 a2 a3 a4 a5 a6) :=
 ((((((h.setCell (p := ⟨g, 0, none⟩) hg a0).setCell (p := ⟨g, 1, none⟩) hg a1).setCell (p := ⟨g, 2, none⟩) hg a2).setCell (p := ⟨g, 3, none⟩) hg a3).setCell (p := ⟨g, 4, none⟩) hg a4).setCell (p := ⟨g, 5, none⟩) hg a5).setCell (p := ⟨g, 6, none⟩) hg a6
end
def pt5 (w : World) (g : Nat) (a0 a1 a2 a3 a4 : Value) : World := ((((w.setCell ⟨g, 0, none⟩ a0).setCell ⟨g, 1, none⟩ a1).setCell ⟨g, 2, none⟩ a2).setCell ⟨g, 3, none⟩ a3).setCell ⟨g, 4, none⟩ a4
section
variable {w u : World} {B g g' : Nat} {t : TypeId}
theorem pt5_box {b0 b1 b2 b3 b4 : Value} (h : Box w g t #[b0, b1, b2, b3, b4]) (a0 a1 a2 a3 a4 : Value) : Box (pt5 w g a0 a1 a2 a3 a4) g t #[a0, a1, a2, a3, a4] := by
 have := ((((h.stored 0 a0).stored 1 a1).stored 2 a2).stored 3 a3).stored 4 a4
 simpa [pt5] using this
theorem pt5_below (h : Below B u w) (hg : B ≤ g) (a0 a1 a2 a3 a4 : Value) : Below B u (pt5 w g a0 a1 a2 a3 a4) :=
 ((((h.setCell (p := ⟨g, 0, none⟩) hg a0).setCell (p := ⟨g, 1, none⟩) hg a1).setCell (p := ⟨g, 2, none⟩) hg a2).setCell (p := ⟨g, 3, none⟩) hg a3).setCell (p := ⟨g, 4, none⟩) hg a4
end
end Go.Proofs.YteebeiaokfenmaaGreat.KP

namespace Go.Proofs.YteebeiaokfenmaaGreat.CP
open Go.RowKit
open CM (Mg Cm)
set_option linter.unusedVariables false
set_option linter.unusedSimpArgs false
def put12 (w : World) (g : Nat) (a0 a1 a2 a3 a4 a5 a6 a7 a8 a9 a10 a11 : Value) : World := ((((((((((((w.setCell ⟨g, 0, none⟩ a0).setCell ⟨g, 1, none⟩ a1).setCell ⟨g, 2, none⟩ a2).setCell ⟨g, 3, none⟩ a3).setCell ⟨g, 4, none⟩ a4).setCell ⟨g, 5, none⟩ a5).setCell ⟨g, 6, none⟩ a6).setCell ⟨g, 7, none⟩ a7).setCell ⟨g, 8, none⟩ a8).setCell ⟨g, 9, none⟩ a9).setCell ⟨g, 10, none⟩ a10).setCell ⟨g, 11, none⟩ a11)
theorem put12_below {B g : Nat} {u w : World} (h : Below B u w) (hg : B ≤ g) (a0 a1 a2 a3 a4 a5 a6 a7 a8 a9 a10 a11 : Value) : Below B u (put12 w g a0 a1 a2 a3 a4 a5 a6 a7 a8 a9 a10 a11) :=
 (((((((((((h.setCell (p := ⟨g, 0, none⟩) hg a0).setCell (p := ⟨g, 1, none⟩) hg a1).setCell (p := ⟨g, 2, none⟩) hg a2).setCell (p := ⟨g, 3, none⟩) hg a3).setCell (p := ⟨g, 4, none⟩) hg a4).setCell (p := ⟨g, 5, none⟩) hg a5).setCell (p := ⟨g, 6, none⟩) hg a6).setCell (p := ⟨g, 7, none⟩) hg a7).setCell (p := ⟨g, 8, none⟩) hg a8).setCell (p := ⟨g, 9, none⟩) hg a9).setCell (p := ⟨g, 10, none⟩) hg a10).setCell (p := ⟨g, 11, none⟩) hg a11
end Go.Proofs.YteebeiaokfenmaaGreat.CP

namespace Go.Proofs.YteebeiaokfenmaaGreat
open Go.RowKit Go.Lib
set_option linter.unusedVariables false
theorem run_copy_s {P : Program} (w : World) (dT sT ty e : TypeId) (s : Nat) (b o dLen dCap : Nat) (a : Addr) (sLen sCap : Nat) (cs : List Value)
  (hu : P.underlying dT = some (.slice e)) (hs : (P.info? e).map (·.size) = some s) (hn : cs.length = Nat.min sLen dLen * s)
  (hsrc : ∀ j v, cs[j]? = some v → w.cell? (a.add j) = some v) (hc : ∀ j, j < cs.length → (w.cell? ⟨b, o + j, none⟩).isSome = true) (hf : ∀ j, j < cs.length → w.frozen? ⟨b, o + j, none⟩ = false) (h1 : ∀ v ∈ cs, v.oneCell' = true) :
  (Builtin.copy_ #[dT, sT] ty #[.slice (some ⟨b, o, none⟩) dLen dCap, .slice (some a) sLen sCap]).run P w = .ok (goInt (Nat.min sLen dLen)) (w.setCells b o cs) := by
 have hl := run_loadCells_list (P := P) w a cs hsrc
 have hst := run_storeCells_cells (P := P) b o cs 0 w (by simpa using hc) (by simpa using hf) h1
 cases hq : P.info? e with
 | none => simp [hq] at hs
 | some i =>
  have hi : i.size = s := by simpa [hq] using hs
  simp only [hn] at hl
  simp [Builtin.copy_, run_underlying hu, Builtin.lenOf, Builtin.firstCells, sizeOf, typeInfo, hq, hi, hl, hst]
theorem box_setCells {g : Nat} {t : TypeId} : ∀ (vs : List Value) (o : Nat) (w : World) (cs : Array Value), Box w g t cs → o + vs.length ≤ cs.size →
  ∃ cs', Box (w.setCells g o vs) g t cs' ∧ cs'.toList = cs.toList.take o ++ vs ++ cs.toList.drop (o + vs.length)
 | [], o, w, cs, h, _ => ⟨cs, h, by simp⟩
 | v :: r, o, w, cs, h, hl => by
  simp only [List.length_cons] at hl
  obtain ⟨cs', h1, h2⟩ := box_setCells r (o + 1) (w.setCell ⟨g, o, none⟩ v) (cs.setIfInBounds o v) (h.stored o v) (by simp; omega)
  refine ⟨cs', h1, ?_⟩
  rw [h2]
  have e : (cs.setIfInBounds o v).toList = cs.toList.set o v := by simp
  have hol : o < cs.toList.length := by simp; omega
  rw [e, List.drop_set_of_lt (by omega), show o + 1 + r.length = o + (v :: r).length by simp; omega]
  congr 1
  rw [List.take_succ_eq_append_getElem (by simpa using hol), List.take_set_of_le n!]
  simp
theorem grown_setCells (g : Nat) : ∀ (vs : List Value) (o : Nat) (w : World), w.grownBy (w.setCells g o vs) (some g)
 | [], o, w => World.grownBy.refl w _
 | v :: r, o, w => by
  have h := grown_setCells g r (o + 1) (w.setCell ⟨g, o, none⟩ v)
  have h0 : w.grownBy (w.setCell ⟨g, o, none⟩ v) (some g) := ⟨rfl, rfl, rfl, by simp [World.setCell], fun k hk hne => Below.heap_setCell _ _ _ _ (by intro e; apply hne; rw [e])⟩
  exact grown_more h0 h (.inl rfl)
theorem set_tail_first {L xs ys vs : List Value} {a s r : Nat} (h1 : L.take a = xs) (hv : vs.length = s) (hy : ys.length = r) (hl : a + s + r ≤ L.length) (hx : xs.length = a) {L1 L2 : List Value}
  (e1 : L1 = L.take (a + s) ++ ys ++ L.drop (a + s + ys.length)) (e2 : L2 = L1.take a ++ vs ++ L1.drop (a + vs.length)) : L2.take (a + s + r) = xs ++ vs ++ ys ∧ L2.length = L.length := by
 have ha : (L.take (a + s)).length = a + s := by rw [List.length_take]; omega
 have t1 : L1.take a = xs := by
  rw [e1, List.append_assoc, List.take_append_of_le_length (by omega), List.take_take, Nat.min_eq_left (by omega), h1]
 have t2 : L1.drop (a + vs.length) = ys ++ L.drop (a + s + ys.length) := by
  rw [e1, hv, List.append_assoc, List.drop_append_of_le_length (by omega), List.drop_eq_nil_of_le (by omega), List.nil_append]
 constructor
 ·rw [e2, t1, t2, ← List.append_assoc, List.take_append_of_le_length (by simp; omega), List.take_of_length_le (by simp; omega)]
 ·rw [e2, t1, t2]
  simp
  omega
theorem set_new_first {L xs ys vs : List Value} {a s r : Nat} (h1 : L.take a = xs) (hv : vs.length = s) (hy : ys.length = r) (hl : a + s + r ≤ L.length) (hx : xs.length = a) {L1 L2 : List Value}
  (e1 : L1 = L.take a ++ vs ++ L.drop (a + vs.length)) (e2 : L2 = L1.take (a + s) ++ ys ++ L1.drop (a + s + ys.length)) : L2.take (a + s + r) = xs ++ vs ++ ys ∧ L2.length = L.length := by
 have t1 : L1.take (a + s) = xs ++ vs := by
  rw [e1, h1, List.take_append_of_le_length (by simp; omega), List.take_of_length_le (by simp; omega)]
 have hl1 : L1.length = L.length := by rw [e1]; simp; omega
 constructor
 ·rw [e2, t1, List.take_append_of_le_length (by simp; omega), List.take_of_length_le (by simp; omega)]
 ·rw [e2, t1]
  simp
  omega
def InsIs (base : Nat) (e : TypeId) (s n : Nat) (xs : List Value) (ob : Option Nat) (w : World) (x : Ending) (w' : World) : Prop :=
 ∃ A c, x = .returned (.slice A (n + 1) c) ∧ w'.ownsRow base e s (.slice A (n + 1) c) (n + 1) xs ∧ w.grownBy w' ob ∧ (Value.ownBlock (.slice A (n + 1) c) = ob ∨ Value.ownBlock (.slice A (n + 1) c) = some w.heap.size)
theorem Box.isSome {w : World} {g : Nat} {t : TypeId} {cs : Array Value} (h : Box w g t cs) {j : Nat} (hj : j < cs.size) : (w.cell? ⟨g, j, none⟩).isSome = true := by
 rw [h.cell j, Array.getElem?_eq_getElem hj]; rfl
end Go.Proofs.YteebeiaokfenmaaGreat

namespace Go.Proofs.YteebeiaokfenmaaGreat.SP
open Go.RowKit

set_option linter.unusedVariables false
set_option linter.unusedSimpArgs false
def tc (l : List ByteArray) : List Value := l.map Value.string
theorem tc_length (l : List ByteArray) : (tc l).length = l.length := by simp [tc]
theorem tc_get {l : List ByteArray} {k : Nat} {v : ByteArray} (h : l[k]? = some v) : (tc l)[k]? = some (.string v) := by simp [tc, h]
def Rws (w : World) (rows : List Value) (ls : List (List ByteArray)) : Prop :=
 rows.length = ls.length ∧ ∀ (i : Nat) l, ls[i]? = some l → ∃ B c, rows[i]? = some (.slice B l.length c) ∧ Rd w B l.length (tc l) ∧ l.length ≤ c ∧ c ≤ maxLen
def LogsIs (w : World) (A : Option Addr) (n c : Nat) (ls : List (List ByteArray)) : Prop := ∃ rows, Rd w A n rows ∧ Rws w rows ls ∧ ls.length = n ∧ n ≤ c ∧ c ≤ maxLen
theorem Rws.below {w w' : World} {rows : List Value} {ls : List (List ByteArray)} (h : Rws w rows ls) (hb : Below w.heap.size w w') : Rws w' rows ls :=
 ⟨h.1, fun i l hi => by obtain ⟨B, c, h1, h2, h3, h4⟩ := h.2 i l hi; exact ⟨B, c, h1, h2.below hb, h3, h4⟩⟩
theorem LogsIs.below {w w' : World} {A : Option Addr} {n c : Nat} {ls : List (List ByteArray)} (h : LogsIs w A n c ls) (hb : Below w.heap.size w w') : LogsIs w' A n c ls := by
 obtain ⟨rows, h1, h2, h3⟩ := h
 exact ⟨rows, h1.below hb, h2.below hb, h3⟩
theorem logs_get {w : World} {A : Option Addr} {n c k : Nat} {ls : List (List ByteArray)} {l : List ByteArray} (h : LogsIs w A n c ls) (hk : ls[k]? = some l) :
  ∃ ad B d, A = some ad ∧ k < n ∧ w.cell? (ad.add k) = some (.slice B l.length d) ∧ Rd w B l.length (tc l) ∧ l.length ≤ d ∧ d ≤ maxLen := by
 obtain ⟨rows, h1, h2, h3, h4, h5⟩ := h
 obtain ⟨B, d, e, hr, hd, hm⟩ := h2.2 k l hk
 have hkl := (List.getElem?_eq_some_iff.1 hk).1
 obtain ⟨ad, u, ea, _, hu, hc⟩ := h1.at_ (k := k) (by omega)
 rw [e] at hu
 injection hu with hu
 exact ⟨ad, B, d, ea, by omega, by rw [hc, hu], hr, hd, hm⟩
end Go.Proofs.YteebeiaokfenmaaGreat.SP

namespace Go.Proofs.YteebeiaokfenmaaGreat
open Go.RowKit Go.Joins Go.ChangeShapes Go.WideShapes Go.Deep
set_option linter.unusedVariables false
section
variable {H : Type} {enc : TypeId × Value → H} {w : World} {spare : Nat → Bool} {held : Bool} {base : Nat}
end
end Go.Proofs.YteebeiaokfenmaaGreat
