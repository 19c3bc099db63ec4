/-
  Package stable's Twin, and slices.Clone at its types: it, in new memory. Conditions: at most 2,000 of each.
  Package stable's areLogs, with what it calls (slices.ContainsFunc at isNoLog, at isTooLong). Conditions: the slices read as said.
  Package stable's areVotes, Check. Conditions: the slices read as said, numbers fit.
  Package stable's do, of any record; Apply; Replay. Conditions: the parts read as said, numbers fit.
  Package stable's Replay: what texts make. Conditions: texts' lengths are ones that Go has.
  Package stable's recordsOf, shortest, Image. Conditions: the parts read as said, numbers fit.
  Package stable's shortest: the shortest records. Conditions: what lasts may be.
  Package stable's At. Conditions: the parts read as said, numbers fit.
  What the document's own SameVotes and Same of layer 11 answer (towncrierref11). Conditions: the slices read as said.
  Package stable's Same, with slices.Equal and slices.EqualFunc at its types. Conditions: the slices read as said.
  Package stable's functions as the laws' walks take them. No condition.
  What the document's own Same of layer 11 answers (towncrierref11.Same), of any two. Conditions: the values read as said.
-/
import Derived.Test.YtohiemdodffhoaaStTw
import Derived.Lib.SliceRun
import Derived.Test.YtohiemdodffhoaaStOwn
import Derived.Test.YtohiemdodffhoaaK02
import Derived.Shelf.RegionOpenPlain
import Derived.Deep.DeepCutAuto
import Derived.Test.YtohiemdodffhoaaK03
import Derived.Test.YtohiemdodffhoaaK01
import Derived.Test.YtohiemdodffhoaaRecRd
import Derived.Test.YtohiemdodffhoaaRecW
import Derived.Test.YtohiemdodffhoaaStLen
import Derived.Test.YtohiemdodffhoaaStA
import Derived.Deep.RegionHeld3
namespace Go.Proofs.Ytohiemdodffhoaa.SP
open Go.RowKit Go.Shelf
open SM (Sn Sb Vo)
set_option linter.unusedVariables false
set_option linter.unusedSimpArgs false
set_option maxRecDepth 100000

/-- a row in new memory -/
def RowIs (e : TypeId) (s n : Nat) (xs : List Value) (w : World) (x : Ending) (w' : World) : Prop :=
  ∃ A c, x = .returned (.slice A n c) ∧ w'.ownsRow w.heap.size e s (.slice A n c) n xs ∧ Below w.heap.size w w'
set_option maxHeartbeats 1000000 in
theorem cloneS_any (B : Option Addr) (m d : Nat) (xs : List Value) (w : World) (hr : RdG w 1 B m xs) (h1 : ∀ u ∈ xs, u.oneCell' = true) (hm : m ≤ 2000) :
    Calls Try.prog 47 #[.slice B m d] w (RowIs 9 1 m xs w) := by
  obtain ⟨i0, hi, hz0, hz1, hz2⟩ := info_parts info_str
  have HR := Lib.hid hr
  have H1 := Lib.hid h1
  clear hr h1
  rcases B with _ | ad
  · have hn0 : m = 0 := by
      rcases Nat.eq_zero_or_pos m with h0 | h0
      · exact h0
      · obtain ⟨ad, h, _⟩ := HR.out.2 h0; cases h
    subst hn0
    have hl0 : xs = [] := List.eq_nil_of_length_eq_zero (by simpa using HR.out.1)
    have hfin : RowIs 9 1 0 xs w (.returned (.slice none 0 0)) w := ⟨_, _, rfl, by rw [hl0]; exact World.ownsRow_nil _ _ _ _, Below.refl _ _⟩
    have HF := Lib.hid hfin; clear hfin hl0
    have hnil : ∀ W, (binOp .eql 32 (.slice none 0 d) (.slice none 0 0)).run Try.prog W = .ok (.bool true) W := fun W => Lib.run_eql_slice_nil W _ _ _ _ _ _ _ Try.underlying32
    go_enter Try.func47, Try.ntmps47
    go_wp2_with fail
    go_ret
    exact HF.out
  · have hown0 : (w.alloc (.cells #[] 9)).ownsRow w.heap.size 9 1 (.slice (some ⟨w.heap.size, 0, none⟩) 0 0) 0 [] := World.ownsRow_made w #[] 0 (Nat.le_refl _) (by unfold maxLen; omega) (by simp)
    have hr0 : RdG (w.alloc (.cells #[] 9)) 1 (some ad) m xs := HR.out.alloc _
    have HO := Lib.hid hown0
    have HR0 := Lib.hid hr0
    clear hown0 hr0
    have hnil : ∀ W, (binOp .eql 32 (.slice (some ad) m d) (.slice none 0 0)).run Try.prog W = .ok (.bool false) W := fun W => Lib.run_eql_slice_nil W _ _ _ _ _ _ _ Try.underlying32
    go_enter Try.func47, Try.ntmps47
    go_wp2_with (at_builtin; refine wpList_append_g _ rfl _ _ 32 rfl w.heap.size 9 i0 _ 1 16 Try.underlying32 hi hz0 hz1 hz2 rfl (by omega) _ _ _ rfl HO.out (some ad) m d xs rfl HR0.out H1.out (by unfold maxLen; omega) (by omega) (by simp) ?_; intro v2 w2 hown2 hg2 hob2)
    go_ret
    simp only [Nat.zero_add, List.nil_append] at hown2
    obtain ⟨A', c', rfl, _, _⟩ := own_form hown2
    exact ⟨_, _, rfl, hown2, below_row ((Below.refl _ _).alloc (Nat.le_refl _) _) HO.out (by simp) hg2⟩

set_option maxHeartbeats 1000000 in
theorem cloneR_any (B : Option Addr) (m d : Nat) (xs : List Value) (w : World) (hr : RdG w 1 B m xs) (h1 : ∀ u ∈ xs, u.oneCell' = true) (hm : m ≤ 2000) :
    Calls Try.prog 46 #[.slice B m d] w (RowIs 32 1 m xs w) := by
  obtain ⟨i0, hi, hz0, hz1, hz2⟩ := info_parts info_row
  have HR := Lib.hid hr
  have H1 := Lib.hid h1
  clear hr h1
  rcases B with _ | ad
  · have hn0 : m = 0 := by
      rcases Nat.eq_zero_or_pos m with h0 | h0
      · exact h0
      · obtain ⟨ad, h, _⟩ := HR.out.2 h0; cases h
    subst hn0
    have hl0 : xs = [] := List.eq_nil_of_length_eq_zero (by simpa using HR.out.1)
    have hfin : RowIs 32 1 0 xs w (.returned (.slice none 0 0)) w := ⟨_, _, rfl, by rw [hl0]; exact World.ownsRow_nil _ _ _ _, Below.refl _ _⟩
    have HF := Lib.hid hfin; clear hfin hl0
    have hnil : ∀ W, (binOp .eql 22 (.slice none 0 d) (.slice none 0 0)).run Try.prog W = .ok (.bool true) W := fun W => Lib.run_eql_slice_nil W _ _ _ _ _ _ _ Try.underlying22
    go_enter Try.func46, Try.ntmps46
    go_wp2_with fail
    go_ret
    exact HF.out
  · have hown0 : (w.alloc (.cells #[] 32)).ownsRow w.heap.size 32 1 (.slice (some ⟨w.heap.size, 0, none⟩) 0 0) 0 [] := World.ownsRow_made w #[] 0 (Nat.le_refl _) (by unfold maxLen; omega) (by simp)
    have hr0 : RdG (w.alloc (.cells #[] 32)) 1 (some ad) m xs := HR.out.alloc _
    have HO := Lib.hid hown0
    have HR0 := Lib.hid hr0
    clear hown0 hr0
    have hnil : ∀ W, (binOp .eql 22 (.slice (some ad) m d) (.slice none 0 0)).run Try.prog W = .ok (.bool false) W := fun W => Lib.run_eql_slice_nil W _ _ _ _ _ _ _ Try.underlying22
    go_enter Try.func46, Try.ntmps46
    go_wp2_with (at_builtin; refine wpList_append_g _ rfl _ _ 22 rfl w.heap.size 32 i0 _ 1 24 Try.underlying22 hi hz0 hz1 hz2 rfl (by omega) _ _ _ rfl HO.out (some ad) m d xs rfl HR0.out H1.out (by unfold maxLen; omega) (by omega) (by simp) ?_; intro v2 w2 hown2 hg2 hob2)
    go_ret
    simp only [Nat.zero_add, List.nil_append] at hown2
    obtain ⟨A', c', rfl, _, _⟩ := own_form hown2
    exact ⟨_, _, rfl, hown2, below_row ((Below.refl _ _).alloc (Nat.le_refl _) _) HO.out (by simp) hg2⟩

set_option maxHeartbeats 1000000 in
theorem cloneV_any (B : Option Addr) (m d : Nat) (xs : List Value) (w : World) (hr : RdG w 5 B m xs) (h1 : ∀ u ∈ xs, u.oneCell' = true) (hm : m ≤ 2000) :
    Calls Try.prog 48 #[.slice B m d] w (RowIs 75 5 m xs w) := by
  obtain ⟨i0, hi, hz0, hz1, hz2⟩ := info_parts info_seen
  have HR := Lib.hid hr
  have H1 := Lib.hid h1
  clear hr h1
  rcases B with _ | ad
  · have hn0 : m = 0 := by
      rcases Nat.eq_zero_or_pos m with h0 | h0
      · exact h0
      · obtain ⟨ad, h, _⟩ := HR.out.2 h0; cases h
    subst hn0
    have hl0 : xs = [] := List.eq_nil_of_length_eq_zero (by simpa using HR.out.1)
    have hfin : RowIs 75 5 0 xs w (.returned (.slice none 0 0)) w := ⟨_, _, rfl, by rw [hl0]; exact World.ownsRow_nil _ _ _ _, Below.refl _ _⟩
    have HF := Lib.hid hfin; clear hfin hl0
    have hnil : ∀ W, (binOp .eql 23 (.slice none 0 d) (.slice none 0 0)).run Try.prog W = .ok (.bool true) W := fun W => Lib.run_eql_slice_nil W _ _ _ _ _ _ _ Try.underlying23
    go_enter Try.func48, Try.ntmps48
    go_wp2_with fail
    go_ret
    exact HF.out
  · have hown0 : (w.alloc (.cells #[] 75)).ownsRow w.heap.size 75 5 (.slice (some ⟨w.heap.size, 0, none⟩) 0 0) 0 [] := World.ownsRow_made w #[] 0 (Nat.le_refl _) (by unfold maxLen; omega) (by simp)
    have hr0 : RdG (w.alloc (.cells #[] 75)) 5 (some ad) m xs := HR.out.alloc _
    have HO := Lib.hid hown0
    have HR0 := Lib.hid hr0
    clear hown0 hr0
    have hnil : ∀ W, (binOp .eql 23 (.slice (some ad) m d) (.slice none 0 0)).run Try.prog W = .ok (.bool false) W := fun W => Lib.run_eql_slice_nil W _ _ _ _ _ _ _ Try.underlying23
    go_enter Try.func48, Try.ntmps48
    go_wp2_with (at_builtin; refine wpList_append_g _ rfl _ _ 23 rfl w.heap.size 75 i0 _ 5 48 Try.underlying23 hi hz0 hz1 hz2 rfl (by omega) _ _ _ rfl HO.out (some ad) m d xs rfl HR0.out H1.out (by unfold maxLen; omega) (by omega) (by simp) ?_; intro v2 w2 hown2 hg2 hob2)
    go_ret
    simp only [Nat.zero_add, List.nil_append] at hown2
    obtain ⟨A', c', rfl, _, _⟩ := own_form hown2
    exact ⟨_, _, rfl, hown2, below_row ((Below.refl _ _).alloc (Nat.le_refl _) _) HO.out (by simp) hg2⟩


/-- the word of Twin's loop -/
structure TvR (W : World) (g0 : Nat) (x : Sb) (B : Option Addr) (d : Nat) (A : Option Addr) (c : Nat) (old new : List Value) (k : Nat) (wr : World) : Prop where
  bl : Below W.heap.size W wr
  hg : g0 = W.heap.size
  bx : Box wr g0 25 #[.slice A x.logs.length c, .slice B x.votes.length d]
  br : Box wr (g0 + 1) 25 #[.slice none 0 0, .slice none 0 0]
  oL : wr.ownsRow W.heap.size 32 1 (.slice A x.logs.length c) x.logs.length (new ++ old.drop k)
  rw_ : RwOwn wr W.heap.size new (x.logs.take k)
  ap : Apart new
section
variable {W u w4 : World} {g0 : Nat} {x : Sb} {B A C : Option Addr} {d c e k q : Nat} {old new : List Value} {l : List ByteArray}
theorem TvR.below (h : TvR W g0 x B d A c old new k u) (hb : Below u.heap.size u w4) : TvR W g0 x B d A c old new k w4 :=
  ⟨bmore h.bl hb (Nat.le_refl _), h.hg, h.bx.below hb h.bx.lt, h.br.below hb h.br.lt, own_below3 h.oL hb, h.rw_.below hb, h.ap⟩
theorem TvR.len (h : TvR W g0 x B d A c old new k u) (hk : k ≤ x.logs.length) : new.length = k := by have := h.rw_.1; rw [List.length_take] at this; omega
theorem TvR.step (h : TvR W g0 x B d (some ⟨q, 0, none⟩) c old new k u) (hb : Below u.heap.size u w4) (o : w4.ownsRow u.heap.size 9 1 (.slice C l.length e) l.length (tc l)) (hl : x.logs[k]? = some l) :
    (∃ cv, w4.cell? ⟨q, k, none⟩ = some cv) ∧ w4.frozen? ⟨q, k, none⟩ = false ∧ TvR W g0 x B d (some ⟨q, 0, none⟩) c old (new ++ [.slice C l.length e]) (k + 1) (w4.setCell ⟨q, k, none⟩ (.slice C l.length e)) := by
  have h4 := h.below hb
  have hkl := (List.getElem?_eq_some_iff.1 hl).1
  have hn := h.len (by omega)
  obtain ⟨hbq, cur, hx⟩ := own_block h4.oL (g := q) rfl
  have kq : Kept isRow w4 (w4.setCell ⟨q, k, none⟩ (.slice C l.length e)) := Kept.set (S := isRow) hx rfl _
  have hll := h4.oL.1
  have hst := (h4.oL.stored k (.slice C l.length e)).1
  have hset : (new ++ old.drop k).set k (.slice C l.length e) = new ++ [.slice C l.length e] ++ old.drop (k + 1) := by
    have ho : k < old.length := by
      rw [List.length_append, List.length_drop] at hll
      omega
    rw [List.set_append_right _ _ (by omega), hn, Nat.sub_self, List.drop_eq_getElem_cons ho, List.set_cons_zero]
    simp
  have hc : ∃ cv, w4.cell? ⟨q, k, none⟩ = some cv := by
    obtain ⟨_, e1, _, hcell⟩ := own_some h4.oL (by omega)
    injection e1 with e1
    injection e1 with e1
    subst e1
    exact ⟨_, hcell k _ (List.getElem?_eq_getElem (by rw [hll]; omega))⟩
  refine ⟨hc, hx.frozen k, ⟨h4.bl.setCell (p := ⟨q, k, none⟩) hbq _, h4.hg, kq.box _ _ _ (by unfold isRow; decide) h4.bx, kq.box _ _ _ (by unfold isRow; decide) h4.br, ?_,
    ((h4.rw_.snoc hl (own_base o h.bl.size)).kept kq (by unfold isRow; decide)), h4.ap.snoc fun i b y hi hy hz => ?_⟩⟩
  · rw [← hset]; simpa using hst
  · have h1 := h.rw_.lt hi hy
    have h2 := (own_block o hz).1
    omega
theorem TvR.fin {F : Option Addr} {f : Nat} (h : TvR W g0 x B d A c old new x.logs.length u) (hb : Below u.heap.size u w4) (o : w4.ownsRow u.heap.size 75 5 (.slice F x.votes.length f) x.votes.length (flat sncell x.votes)) (ho : old.length = x.logs.length) :
    StOwn (((w4.setCell ⟨g0, 1, none⟩ (.slice F x.votes.length f)).setCell ⟨g0 + 1, 0, none⟩ (.slice A x.logs.length c)).setCell ⟨g0 + 1, 1, none⟩ (.slice F x.votes.length f)) W.heap.size (.agg #[.slice A x.logs.length c, .slice F x.votes.length f]) x ∧
      Below W.heap.size W (((w4.setCell ⟨g0, 1, none⟩ (.slice F x.votes.length f)).setCell ⟨g0 + 1, 0, none⟩ (.slice A x.logs.length c)).setCell ⟨g0 + 1, 1, none⟩ (.slice F x.votes.length f)) := by
  have h4 := h.below hb
  have hg := h.hg
  have k1 : Kept isSt w4 (w4.setCell ⟨g0, 1, none⟩ (.slice F x.votes.length f)) := Kept.set (S := isSt) h4.bx rfl _
  have r1 := h4.br.far (p := ⟨g0, 1, none⟩) (by show _ ≠ g0; omega) (.slice F x.votes.length f)
  have k2 := k1.trans (Kept.set (S := isSt) r1 rfl (i := 0) (.slice A x.logs.length c))
  have k3 := k2.trans (Kept.set (S := isSt) (r1.stored 0 (.slice A x.logs.length c)) rfl (i := 1) (.slice F x.votes.length f))
  refine ⟨⟨_, _, new, rfl, ?_, ?_, h4.ap, k3.own (own_base o h.bl.size) (by unfold isSt; decide)⟩, ((h4.bl.setCell (p := ⟨g0, 1, none⟩) (by show _ ≤ g0; omega) _).setCell (p := ⟨g0 + 1, 0, none⟩) (by show _ ≤ g0 + 1; omega) _).setCell (p := ⟨g0 + 1, 1, none⟩) (by show _ ≤ g0 + 1; omega) _⟩
  · have := h4.oL
    rw [List.drop_of_length_le (by omega), List.append_nil] at this
    exact k3.own this (by unfold isSt; decide)
  · have := h4.rw_
    rw [List.take_of_length_le (Nat.le_refl _)] at this
    exact this.kept k3 (by unfold isSt; decide)
end
set_option maxHeartbeats 8000000 in
theorem twin_any (v : Value) (x : Sb) (W : World) (H : StIs W v x) (F : Many x) :
    Calls Try.prog 24 #[v] W fun e w' => ∃ v', e = .returned v' ∧ StOwn w' W.heap.size v' x ∧ Below W.heap.size W w' := by
  obtain ⟨A, c, B, d, rfl, hL, hV⟩ := H
  obtain ⟨f1, f2, f3⟩ := F
  obtain ⟨_, m1, m2⟩ := rows_rd2 hL
  have hb0 : Below W.heap.size W ((W.alloc (.cells #[.slice A x.logs.length c, .slice B x.votes.length d] 25)).alloc (.cells #[.slice none 0 0, .slice none 0 0] 25)) := ((Below.refl _ _).alloc (Nat.le_refl _) _).alloc (by simp) _
  have HB := Lib.hid hb0
  have X := Lib.hid ((Box.new W 25 #[.slice A x.logs.length c, .slice B x.votes.length d]).alloc (.cells #[.slice none 0 0, .slice none 0 0] 25))
  have Y := Lib.hid (Box.new_at (w := W.alloc (.cells #[.slice A x.logs.length c, .slice B x.votes.length d] 25)) (t := 25) (cs := #[.slice none 0 0, .slice none 0 0]) (W.heap.size + 1) (by simp))
  obtain ⟨rows, hr1, hr2, hr3, _, _⟩ := hL
  have HRW := Lib.hid hr2
  have HVW := Lib.hid hV
  have H1 := Lib.hid (hr1.below hb0)
  have H2 := Lib.hid (hr2.below hb0)
  have HV := Lib.hid (hV.below hb0)
  have HF2 := Lib.hid f2
  have HRL := Lib.hid (show rows.length = x.logs.length from hr1.1)
  clear hr1 hr2 hr3 hV hb0 f2 m1 m2
  go_enter Try.func24, Try.ntmps24
  go_upto_region 1 with (fail)
  generalize (W.alloc (.cells #[.slice A x.logs.length c, .slice B x.votes.length d] 25)).alloc (.cells #[.slice none 0 0, .slice none 0 0] 25) = w1 at HB X Y H1 H2 HV ⊢
  obtain ⟨g0, hg0⟩ : ∃ g0, W.heap.size = g0 := ⟨_, rfl⟩
  rw [hg0] at X Y
  simp only [hg0]
  have HG := Lib.hid hg0
  clear hg0
  obtain ⟨x0, x1, z0, z1⟩ := X.out.two
  have CR := Lib.hid (cloneR_any A x.logs.length c rows w1 H1.out.g (by
    intro u hu
    obtain ⟨i, hi, rfl⟩ := List.getElem_of_mem hu
    obtain ⟨B', c', e', _⟩ := H2.out.2 i (x.logs[i]'(by have := HRL.out; omega)) (List.getElem?_eq_getElem _)
    rw [List.getElem?_eq_getElem hi] at e'
    injection e' with e'
    rw [e']; rfl) f1)
  go_wp2_with fail
  refine (CR.out).mono ?_
  rintro e w2 ⟨A1, c1, rfl, o1, hb⟩
  clear x0 x1 z0 z1 CR
  have hs1 := HB.out.size
  have S0 := Lib.hid (show TvR W g0 x B d A1 c1 rows [] 0 (w2.setCell ⟨g0, 0, none⟩ (.slice A1 x.logs.length c1)) from by
    have bx2 := X.out.below hb X.out.lt
    have k2 : Kept isSt w2 (w2.setCell ⟨g0, 0, none⟩ (.slice A1 x.logs.length c1)) := Kept.set (S := isSt) bx2 rfl _
    refine ⟨(HB.out.trans (hb.mono hs1)).setCell (p := ⟨g0, 0, none⟩) (by show _ ≤ g0; have := HG.out; omega) _, HG.out.symm, by simpa using bx2.stored 0 _, (Y.out.below hb Y.out.lt).far (p := ⟨g0, 0, none⟩) (by show _ ≠ g0; omega) _, ?_, RwOwn.nil _ _, Apart.nil⟩
    exact k2.own (own_base o1 hs1) (by unfold isSt; decide))
  obtain ⟨x0, x1, z0, z1⟩ := (X.out.below hb X.out.lt).two
  clear hb o1 hs1 X Y HB HV H1 H2
  go_upto_region 2 with (fail)
  clear x0 x1 z0 z1
  generalize w2.setCell ⟨g0, 0, none⟩ (.slice A1 x.logs.length c1) = w3 at S0 ⊢
  obtain ⟨x0, x1, z0, z1⟩ := S0.out.bx.two
  go_wp2_with fail
  clear x0 x1 z0 z1
  go_loopw [12] (fun i wr => ∃ (k : Nat) (new : List Value), k ≤ x.logs.length ∧ i = .int .i64 k ∧ Hid (TvR W g0 x B d A1 c1 rows new k wr)) (fun i _ => x.logs.length - (intOf i).toNat)
  case atStart => exact ⟨0, [], Nat.zero_le _, rfl, S0⟩
  case round =>
    clear S0
    obtain ⟨k, new, hk, rfl, S⟩ := hrel
    by_cases hlt : k < x.logs.length
    · obtain ⟨l, hl⟩ : ∃ l, x.logs[k]? = some l := ⟨_, List.getElem?_eq_getElem hlt⟩
      obtain ⟨q, hA, _, hcell⟩ := own_some S.out.oL (by omega)
      subst hA
      have hn := S.out.len (by omega)
      obtain ⟨C, e, hrow, hrd, hle, hem⟩ := HRW.out.2 k l hl
      have c0 := hcell k _ (show (new ++ rows.drop k)[k]? = some (.slice C l.length e) from by rw [List.getElem?_append_right (by omega), hn, Nat.sub_self, List.getElem?_drop]; simpa using hrow)
      have hl2 := HF2.out l (List.mem_of_getElem? hl)
      have CS := Lib.hid (fun (u : World) (h : Below W.heap.size W u) => cloneS_any C l.length e (tc l) u (hrd.below h).g (tc_one _) hl2)
      have HL := Lib.hid hl
      have hk0 : (0 : Int) ≤ (k : Int) := by omega
      have hkn : (k : Int) < (x.logs.length : Int) := by omega
      clear hl hrow hrd hcell hn hle hem
      obtain ⟨x0, x1, z0, z1⟩ := S.out.bx.two
      go_upto_region 5 with (fail)
      clear x0 x1 z0 z1 c0
      have HSS := Lib.hid (fun (w' : World) (hx : Box w' g0 25 #[.slice (some ⟨q, 0, none⟩) x.logs.length c1, .slice B x.votes.length d]) => (hx.cell 0 : w'.cell? ⟨g0, 0, none⟩ = some (.slice (some ⟨q, 0, none⟩) x.logs.length c1)))
      have hd : Below wr.heap.size wr wr.drew := (Below.refl _ _).drew
      obtain ⟨ud, hud⟩ : ∃ ud, ud = wr.drew := ⟨_, rfl⟩
      rw [← hud] at hd
      replace S := Lib.hid (S.out.below hd)
      clear hd
      refine wp_region_held_drew (S := fun w' => w'.cell? ⟨g0, 0, none⟩ = some (.slice (some ⟨q, 0, none⟩) x.logs.length c1)) (by kernel_rfl) (by rw [← hud]; exact HSS.out _ S.out.bx) (fun hHeld => ?_)
      rw [← hud] at hHeld ⊢
      clear hud
      refine qT 0 ?_; try simp only [Act.put, qq]
      refine qT 1 ?_; try simp only [Act.put, qq]
      refine qT 2 ?_; try simp only [Act.put, qq]
      refine qT 3 ?_; try simp only [Act.put, qq]
      refine wpAnyH_ready (rs := [4]) (by kernel_rfl) (by simp) ?_
      refine AllReadyH.cons rfl (fun K hK => ?_) AllReadyH.nil
      go_simp
      refine (CS.out _ S.out.bl).mono ?_
      rintro e1 w4 ⟨C2, e2, rfl, o4, hb4⟩
      obtain ⟨⟨cv, hcv⟩, hfr, hNX⟩ := S.out.step hb4 o4 HL.out
      have NX := Lib.hid hNX
      have S4 := Lib.hid (S.out.below hb4)
      clear o4 hb4 S hNX
      refine hK.out _ _ (HSS.out _ S4.out.bx) (fun hHeld => ?_)
      clear hK
      try simp only [Act.put, qq]
      refine qT 5 ?_; try simp only [Act.put, qq]
      refine wpAnyH_ready (rs := [6]) (by kernel_rfl) (by simp) ?_
      refine AllReadyH.cons rfl (fun K hK => ?_) AllReadyH.nil
      go_simp
      refine hK.out _ _ (HSS.out _ NX.out.bx) (fun hHeld => ?_)
      clear hK hcv hfr
      try simp only [Act.put, qq]
      refine wpAnyH_done (by kernel_rfl) ?_ _
      clear hHeld HSS
      go_wp2_with fail
      go_roundw
      case rel => exact ⟨k + 1, _, by omega, by go_num, NX⟩
      case measure => simp [intOf]; omega
    · have hkl : k = x.logs.length := by omega
      subst hkl
      have CV := Lib.hid (cloneV_any B x.votes.length d (flat sncell x.votes) wr (HVW.out.below S.out.bl).1 (one_flat sn_one _) f3)
      obtain ⟨x0, x1, z0, z1⟩ := S.out.bx.two
      go_wp2_with fail
      refine (CV.out).mono ?_
      rintro e w5 ⟨A5, c5, rfl, o5, hb5⟩
      have S5 := Lib.hid (S.out.below hb5)
      have FI := Lib.hid (S.out.fin hb5 o5 HRL.out)
      clear x0 x1 z0 z1 CV o5 hb5 S
      obtain ⟨x0, x1, z0, z1⟩ := S5.out.bx.two
      obtain ⟨y0, y1, u0, u1⟩ := S5.out.br.two
      have hne : g0 + 1 ≠ g0 := by omega
      go_wp2_with fail
      exact bodyPost_ret (v := .agg #[.slice A1 x.logs.length c1, .slice A5 x.votes.length c5]) (by simp [results, Try.results24, go_sem, y0, y1]; try rfl) rfl ⟨_, rfl, FI.out⟩
end Go.Proofs.Ytohiemdodffhoaa.SP

namespace Go.Proofs.Ytohiemdodffhoaa.SP
open Go.RowKit Go.Shelf
open SM (Sn Sb Vo)
set_option linter.unusedVariables false
set_option linter.unusedSimpArgs false
set_option maxRecDepth 100000

def BoolW (b : Bool) (w : World) (e : Ending) (w' : World) : Prop := e = .returned (.bool b) ∧ w = w'
set_option maxHeartbeats 1000000 in
theorem toolong_any (v : ByteArray) (w : World) (hs : v.size ≤ maxLen) : Calls Try.prog 98 #[.string v] w (BoolW (decide (1024 < v.size)) w) := by
  unfold maxLen at hs
  obtain ⟨b, hb⟩ : ∃ b, b = decide (1024 < v.size) := ⟨_, rfl⟩
  rw [← hb]
  have HB := Lib.hid (show decide ((1024 : Int) < (v.size : Int)) = b by rw [hb]; exact decide_eq_decide.2 (by omega))
  clear hb
  go_enter Try.func98, Try.ntmps98
  go_wp2_with fail
  go_ret
  refine ⟨?_, rfl⟩
  rw [← HB.out]
  rfl
set_option maxHeartbeats 2000000 in
theorem idx1_any (A : Option Addr) (n c : Nat) (l : List ByteArray) (w : World) (hr : Rd w A n (tc l)) (hs : ∀ v ∈ l, v.size ≤ maxLen) (hm : n ≤ maxLen) :
    Calls Try.prog 109 #[.slice A n c, .func (.func 98) #[] #[]] w fun e w' => ∃ z : Int, e = .returned (.int .i64 z) ∧ (0 ≤ z ↔ ∃ v ∈ l, 1024 < v.size) ∧ w = w' := by
  have hl : l.length = n := by have := hr.1; rwa [tc_length] at this
  unfold maxLen at hm
  have eg : ∀ args w, (callFunc 98 args).run Try.prog w = .ok (.enter 98 args) w := enters_of Try.func98 (by kernel_rfl) rfl
  have HL := Lib.hid hl
  have HS := Lib.hid hs
  have HR := Lib.hid hr
  clear hl hs hr
  go_enter Try.func109, Try.ntmps109
  go_wp2_with fail
  go_loop [8] (fun i => ∃ k : Nat, k ≤ n ∧ i = .int .i64 k ∧ Hid (∀ v ∈ l.take k, v.size ≤ 1024)) (fun i => n - (intOf i).toNat)
  case atStart => exact ⟨0, Nat.zero_le _, rfl, Lib.hid (by simp)⟩
  case round =>
    obtain ⟨k, hk, rfl, HK⟩ := hrel
    by_cases hlt : k < n
    · obtain ⟨v, hv⟩ : ∃ v, l[k]? = some v := ⟨_, List.getElem?_eq_getElem (by have := HL.out; omega)⟩
      obtain ⟨ad, rfl, _, hc⟩ := rd_text HR.out hv
      have hvs := HS.out v (List.mem_of_getElem? hv)
      have CV := Lib.hid (fun w => toolong_any v w hvs)
      have HV := Lib.hid hv
      have hk0 : (0 : Int) ≤ (k : Int) := by omega
      have hkn : (k : Int) < (n : Int) := by omega
      clear hv hvs
      by_cases hbig : 1024 < v.size
      · rw [decide_eq_true hbig] at CV
        have HBG := Lib.hid hbig
        clear hbig
        go_wp2_with (go_at_fn 98; refine (CV.out _).mono ?_; rintro e w' ⟨rfl, rfl⟩)
        go_ret
        exact ⟨k, rfl, ⟨fun _ => ⟨v, List.mem_of_getElem? HV.out, HBG.out⟩, fun _ => by omega⟩, rfl⟩
      · rw [decide_eq_false hbig] at CV
        have HBG := Lib.hid hbig
        clear hbig
        go_wp2_with (go_at_fn 98; refine (CV.out _).mono ?_; rintro e w' ⟨rfl, rfl⟩)
        go_round
        case rel => exact ⟨k + 1, by omega, by go_num, Lib.hid (fun u hu => by
            rw [List.take_add_one, HV.out] at hu
            rcases List.mem_append.1 hu with hu | hu
            · exact HK.out u hu
            · simp at hu; subst hu; have := HBG.out; omega)⟩
        case measure => simp [intOf]; omega
    · have HK2 := Lib.hid (show ∀ v ∈ l, v.size ≤ 1024 by have := HK.out; rwa [List.take_of_length_le (by have := HL.out; omega)] at this)
      clear HK
      go_wp2_with fail
      go_ret
      exact ⟨-1, rfl, ⟨fun h => absurd h (by decide), fun ⟨v, hv, h⟩ => by have := HK2.out v hv; omega⟩, rfl⟩
set_option maxHeartbeats 1000000 in
theorem cont1_any (A : Option Addr) (n c : Nat) (l : List ByteArray) (w : World) (hr : Rd w A n (tc l)) (hs : ∀ v ∈ l, v.size ≤ maxLen) (hm : n ≤ maxLen) :
    Calls Try.prog 97 #[.slice A n c, .func (.func 98) #[] #[]] w (BoolW (decide (∃ v ∈ l, 1024 < v.size)) w) := by
  obtain ⟨b, hb⟩ : ∃ b, b = decide (∃ v ∈ l, 1024 < v.size) := ⟨_, rfl⟩
  rw [← hb]
  have HB := Lib.hid hb
  have CI := Lib.hid (idx1_any A n c l w hr hs hm)
  clear hb hr hs hm
  go_enter Try.func97, Try.ntmps97
  go_wp2_with fail
  refine (CI.out).mono ?_
  rintro e w1 ⟨z, rfl, hz, rfl⟩
  have HZ := Lib.hid (show decide (0 ≤ z) = b by rw [HB.out]; exact decide_eq_decide.2 hz)
  clear hz CI
  go_wp2_with fail
  go_ret
  refine ⟨?_, rfl⟩
  rw [← HZ.out]
  rfl
set_option maxHeartbeats 1000000 in
theorem nolog_any (A : Option Addr) (n c : Nat) (l : List ByteArray) (w : World) (hr : Rd w A n (tc l)) (hs : ∀ v ∈ l, v.size ≤ maxLen) (hm : n ≤ maxLen) :
    Calls Try.prog 78 #[.slice A n c] w (BoolW (decide (¬ SM.logOk l)) w) := by
  have hl : l.length = n := by have := hr.1; rwa [tc_length] at this
  obtain ⟨b, hb⟩ : ∃ b, b = decide (¬ SM.logOk l) := ⟨_, rfl⟩
  rw [← hb]
  have CC := cont1_any A n c l w hr hs hm
  unfold maxLen at hm
  by_cases hn : 200 < n
  · obtain rfl : b = true := by rw [hb, decide_eq_true_iff]; intro h; have := h.1; omega
    clear hb CC hr hs hl
    have t1 : decide ((200 : Int) < (n : Int)) = true := by simp; omega
    go_enter Try.func78, Try.ntmps78
    go_wp2_with fail
    go_ret
    exact ⟨rfl, rfl⟩
  · obtain ⟨r, hr2⟩ : ∃ r, r = decide (∃ v ∈ l, 1024 < v.size) := ⟨_, rfl⟩
    have hrb : r = b := by
      rw [hr2, hb]
      refine decide_eq_decide.2 ?_
      unfold SM.logOk
      constructor
      · rintro ⟨v, hv, h⟩ ⟨_, k⟩
        have := k v hv
        omega
      · intro h
        refine Classical.byContradiction fun k => h ⟨by omega, fun v hv => Nat.le_of_not_lt fun hh => k ⟨v, hv, hh⟩⟩
    rw [← hr2] at CC
    rw [hrb] at CC
    have CC := Lib.hid CC
    clear hb hr2 hrb hr hs hl
    have t1 : decide ((200 : Int) < (n : Int)) = false := by simp; omega
    go_enter Try.func78, Try.ntmps78
    go_wp2_with fail
    refine (CC.out).mono ?_
    rintro e w1 ⟨rfl, rfl⟩
    go_wp2_with fail
    go_ret
    exact ⟨rfl, rfl⟩
set_option maxHeartbeats 2000000 in
theorem idx2_any (A : Option Addr) (n c : Nat) (ls : List (List ByteArray)) (w : World) (hL : LogsIs w A n c ls) (hs : ∀ l ∈ ls, ∀ v ∈ l, v.size ≤ maxLen) :
    Calls Try.prog 96 #[.slice A n c, .func (.func 78) #[] #[]] w fun e w' => ∃ z : Int, e = .returned (.int .i64 z) ∧ (0 ≤ z ↔ ∃ l ∈ ls, ¬ SM.logOk l) ∧ w = w' := by
  obtain ⟨hl, hnc, hm⟩ := rows_rd2 hL
  unfold maxLen at hm
  have eg : ∀ args w, (callFunc 78 args).run Try.prog w = .ok (.enter 78 args) w := enters_of Try.func78 (by kernel_rfl) rfl
  have HL := Lib.hid hl
  have HS := Lib.hid hs
  have HR := Lib.hid hL
  clear hl hs hL
  go_enter Try.func96, Try.ntmps96
  go_wp2_with fail
  go_loop [8] (fun i => ∃ k : Nat, k ≤ n ∧ i = .int .i64 k ∧ Hid (∀ l ∈ ls.take k, SM.logOk l)) (fun i => n - (intOf i).toNat)
  case atStart => exact ⟨0, Nat.zero_le _, rfl, Lib.hid (by simp)⟩
  case round =>
    obtain ⟨k, hk, rfl, HK⟩ := hrel
    by_cases hlt : k < n
    · obtain ⟨l, hv⟩ : ∃ l, ls[k]? = some l := ⟨_, List.getElem?_eq_getElem (by have := HL.out; omega)⟩
      obtain ⟨ad, B, d, rfl, _, hc, hrd, hd1, hd2⟩ := logs_get HR.out hv
      have CV := Lib.hid (fun (u : World) (hu : u = w) => nolog_any B l.length d l w hrd (HS.out l (List.mem_of_getElem? hv)) (Nat.le_trans hd1 hd2))
      have CV := Lib.hid (nolog_any B l.length d l w hrd (HS.out l (List.mem_of_getElem? hv)) (Nat.le_trans hd1 hd2))
      have HV := Lib.hid hv
      have hk0 : (0 : Int) ≤ (k : Int) := by omega
      have hkn : (k : Int) < (n : Int) := by omega
      unfold maxLen at hd2
      clear hv hrd
      by_cases hbig : SM.logOk l
      · rw [decide_eq_false (not_not_intro hbig)] at CV
        have HBG := Lib.hid hbig
        clear hbig
        go_wp2_with (go_at_fn 78; refine (CV.out).mono ?_; rintro e w' ⟨rfl, rfl⟩)
        go_round
        case rel => exact ⟨k + 1, by omega, by go_num, Lib.hid (fun u hu => by
            rw [List.take_add_one, HV.out] at hu
            rcases List.mem_append.1 hu with hu | hu
            · exact HK.out u hu
            · simp at hu; subst hu; exact HBG.out)⟩
        case measure => simp [intOf]; omega
      · rw [decide_eq_true hbig] at CV
        have HBG := Lib.hid hbig
        clear hbig
        go_wp2_with (go_at_fn 78; refine (CV.out).mono ?_; rintro e w' ⟨rfl, rfl⟩)
        go_ret
        exact ⟨k, rfl, ⟨fun _ => ⟨l, List.mem_of_getElem? HV.out, HBG.out⟩, fun _ => by omega⟩, rfl⟩
    · have HK2 := Lib.hid (show ∀ l ∈ ls, SM.logOk l by have := HK.out; rwa [List.take_of_length_le (by have := HL.out; omega)] at this)
      clear HK
      go_wp2_with fail
      go_ret
      exact ⟨-1, rfl, ⟨fun h => absurd h (by decide), fun ⟨v, hv, h⟩ => absurd (HK2.out v hv) h⟩, rfl⟩
set_option maxHeartbeats 1000000 in
theorem cont2_any (A : Option Addr) (n c : Nat) (ls : List (List ByteArray)) (w : World) (hL : LogsIs w A n c ls) (hs : ∀ l ∈ ls, ∀ v ∈ l, v.size ≤ maxLen) :
    Calls Try.prog 77 #[.slice A n c, .func (.func 78) #[] #[]] w (BoolW (decide (∃ l ∈ ls, ¬ SM.logOk l)) w) := by
  obtain ⟨b, hb⟩ : ∃ b, b = decide (∃ l ∈ ls, ¬ SM.logOk l) := ⟨_, rfl⟩
  rw [← hb]
  have HB := Lib.hid hb
  have CI := Lib.hid (idx2_any A n c ls w hL hs)
  clear hb hL hs
  go_enter Try.func77, Try.ntmps77
  go_wp2_with fail
  refine (CI.out).mono ?_
  rintro e w1 ⟨z, rfl, hz, rfl⟩
  have HZ := Lib.hid (show decide (0 ≤ z) = b by rw [HB.out]; exact decide_eq_decide.2 hz)
  clear hz CI
  go_wp2_with fail
  go_ret
  refine ⟨?_, rfl⟩
  rw [← HZ.out]
  rfl
/-- may these be logs? -/
def logsOk (ls : List (List ByteArray)) : Prop := (1 ≤ ls.length ∧ ls.length ≤ 4) ∧ ∀ l ∈ ls, SM.logOk l
instance (ls : List (List ByteArray)) : Decidable (logsOk ls) := by unfold logsOk; infer_instance
set_option maxHeartbeats 1000000 in
theorem arelogs_any (A : Option Addr) (n c : Nat) (ls : List (List ByteArray)) (w : World) (hL : LogsIs w A n c ls) (hs : ∀ l ∈ ls, ∀ v ∈ l, v.size ≤ maxLen) :
    Calls Try.prog 50 #[.slice A n c] w (BoolW (decide (logsOk ls)) w) := by
  obtain ⟨hl, hnc, hm⟩ := rows_rd2 hL
  unfold maxLen at hm
  obtain ⟨b, hb⟩ : ∃ b, b = decide (logsOk ls) := ⟨_, rfl⟩
  rw [← hb]
  have CC := cont2_any A n c ls w hL hs
  by_cases h1 : 1 ≤ n
  · have t1 : decide ((1 : Int) ≤ (n : Int)) = true := by simp; omega
    by_cases h4 : n ≤ 4
    · have t2 : decide ((n : Int) ≤ 4) = true := by simp; omega
      obtain ⟨r, hr2⟩ : ∃ r, r = decide (∃ l ∈ ls, ¬ SM.logOk l) := ⟨_, rfl⟩
      have hrb : (!r) = b := by
        rw [hr2, hb, ← decide_not]
        refine decide_eq_decide.2 ⟨fun h => ⟨⟨by omega, by omega⟩, fun l hl2 => Classical.byContradiction fun k => h ⟨l, hl2, k⟩⟩, fun h ⟨l, hl2, k⟩ => k (h.2 l hl2)⟩
      rw [← hr2] at CC
      have CC := Lib.hid CC
      have HRB := Lib.hid hrb
      clear hb hr2 hrb hL hs hl
      go_enter Try.func50, Try.ntmps50
      go_wp2_with fail
      refine (CC.out).mono ?_
      rintro e w1 ⟨rfl, rfl⟩
      go_wp2_with fail
      go_ret
      refine ⟨?_, rfl⟩
      rw [← HRB.out]
      rfl
    · have t2 : decide ((n : Int) ≤ 4) = false := by simp; omega
      obtain rfl : b = false := by rw [hb, decide_eq_false_iff_not]; intro h; have := h.1.2; omega
      clear hb hL hs hl CC
      go_enter Try.func50, Try.ntmps50
      go_wp2_with fail
      go_ret
      exact ⟨rfl, rfl⟩
  · have t1 : decide ((1 : Int) ≤ (n : Int)) = false := by simp; omega
    obtain rfl : b = false := by rw [hb, decide_eq_false_iff_not]; intro h; have := h.1.1; omega
    clear hb hL hs hl CC
    go_enter Try.func50, Try.ntmps50
    go_wp2_with fail
    go_ret
    exact ⟨rfl, rfl⟩
end Go.Proofs.Ytohiemdodffhoaa.SP

namespace Go.Proofs.Ytohiemdodffhoaa.SP
open Go.RowKit Go.Shelf
open SM (Sn Sb Vo)
set_option linter.unusedVariables false
set_option linter.unusedSimpArgs false
set_option maxRecDepth 100000

/-- may these be votes beside the logs? -/
def votesOk (ls : List (List ByteArray)) (vs : List Sn) : Prop := (∀ v ∈ vs, SM.snOk ls v) ∧ SM.rise vs = true
instance (ls : List (List ByteArray)) (vs : List Sn) : Decidable (votesOk ls vs) := by unfold votesOk; infer_instance
theorem may_parts {x : Sb} : SM.may x ↔ logsOk x.logs ∧ votesOk x.logs x.votes := ⟨fun h => ⟨⟨h.1, h.2.1⟩, h.2.2⟩, fun h => ⟨h.1.1, h.1.2, h.2⟩⟩
theorem votes_first {ls : List (List ByteArray)} {vs : List Sn} {v : Sn} (hv : vs[0]? = some v) (hs : SM.snOk ls v) : votesOk ls (vs.take (0 + 1)) := by
  unfold votesOk
  rw [List.take_add_one, hv]
  simp only [List.take_zero, List.nil_append]
  exact ⟨fun u hu => (by simp at hu; subst hu; exact hs), rfl⟩
theorem votes_next {ls : List (List ByteArray)} {vs : List Sn} {v v0 : Sn} {j : Nat} (h : votesOk ls (vs.take (j + 1))) (hv0 : vs[j]? = some v0) (hv : vs[j + 1]? = some v) (hs : SM.snOk ls v) (hl : SM.lt v0 v = true) : votesOk ls (vs.take (j + 1 + 1)) := by
  refine ⟨fun u hu => ?_, SM.rise_get.2 fun i a b ha hb => ?_⟩
  · rw [List.take_add_one, hv] at hu
    rcases List.mem_append.1 hu with hu | hu
    · exact h.1 u hu
    · simp at hu; subst hu; exact hs
  · rw [List.getElem?_take] at ha hb
    split at hb
    · by_cases hij : i = j
      · subst hij
        rw [if_pos (by omega), hv0] at ha
        rw [hv] at hb
        injection ha with ha
        injection hb with hb
        subst ha hb
        exact hl
      · exact (SM.rise_get.1 h.2) i a b (by rw [List.getElem?_take, if_pos (by omega)]; rw [if_pos (by omega)] at ha; exact ha) (by rw [List.getElem?_take, if_pos (by omega)]; exact hb)
    · cases hb
set_option maxHeartbeats 16000000 in
theorem arevotes_any (A B : Option Addr) (c d : Nat) (ls : List (List ByteArray)) (vs : List Sn) (W : World) (hL : LogsIs W A ls.length c ls) (hV : VotesIs W B vs.length d vs) (hF : ∀ v ∈ vs, SnFit v) :
    Calls Try.prog 51 #[.agg #[.slice A ls.length c, .slice B vs.length d]] W (BoolB (decide (votesOk ls vs)) W) := by
  obtain ⟨hR, hVm, hmd, hdm, hFl⟩ := hV
  unfold maxLen at hdm
  obtain ⟨r, hr⟩ : ∃ r, r = decide (votesOk ls vs) := ⟨_, rfl⟩
  rw [← hr]
  have hb0 : Below W.heap.size W (W.alloc (.cells #[.slice A ls.length c, .slice B vs.length d] 25)) := (Below.refl _ _).alloc (Nat.le_refl _) _
  have HB := Lib.hid hb0
  have X := Lib.hid (Box.new W 25 #[.slice A ls.length c, .slice B vs.length d])
  have HL := Lib.hid (hL.below hb0)
  have HR := Lib.hid (hR.below hb0)
  have HFl := Lib.hid hFl
  have HFit := Lib.hid hF
  have HM := Lib.hid hr
  clear hL hR hFl hr hb0 hVm hF
  go_enter Try.func51, Try.ntmps51
  go_upto_region 1 with (fail)
  generalize W.alloc (.cells #[.slice A ls.length c, .slice B vs.length d] 25) = w1 at HB X HL HR ⊢
  generalize W.heap.size = g0 at X ⊢
  obtain ⟨x0, x1, _, _⟩ := X.out.two
  go_wp2_with fail
  clear x0 x1
  go_loopw [8] (fun i wr => ∃ k : Nat, k ≤ vs.length ∧ i = .int .i64 k ∧ Hid (Below w1.heap.size w1 wr) ∧ Hid (votesOk ls (vs.take k))) (fun i _ => vs.length - (intOf i).toNat)
  case atStart => exact ⟨0, Nat.zero_le _, rfl, Lib.hid (Below.refl _ _), Lib.hid ⟨by simp, rfl⟩⟩
  case round =>
    obtain ⟨k, hk, rfl, HW, HK⟩ := hrel
    have X2 := Lib.hid (X.out.below HW.out X.out.lt)
    by_cases hlt : k < vs.length
    · obtain ⟨bl, oo, rfl⟩ := HFl.out (by omega)
      obtain ⟨v, hv⟩ : ∃ v, vs[k]? = some v := ⟨_, List.getElem?_eq_getElem hlt⟩
      have hfit := HFit.out v (List.mem_of_getElem? hv)
      have hrr := HR.out.below HW.out
      obtain ⟨a0, a1, a2, a3, a4⟩ := rdg_sn hrr hv
      have CI := Lib.hid (fun (w : World) (h : Below w1.heap.size w1 w) => isvote_any A (some ⟨bl, oo, none⟩) c vs.length d ls v w (HL.out.below h) hfit)
      have HV := Lib.hid hv
      have HRR := Lib.hid hrr
      have hk0 : (0 : Int) ≤ (k : Int) := by omega
      have hkn : (k : Int) < (vs.length : Int) := by omega
      clear hv hrr hfit
      obtain ⟨r2, hr2⟩ : ∃ r2, r2 = decide (SM.snOk ls v) := ⟨_, rfl⟩
      rw [← hr2] at CI
      have HR2 := Lib.hid hr2
      clear hr2
      unfold vsn at CI
      have CB := Lib.hid (fun (v0 : Sn) (w : World) => byplace_any v0 v w)
      unfold vsn at CB
      obtain ⟨vv, hvv⟩ : ∃ vv, vv = v := ⟨_, rfl⟩
      obtain ⟨g, s, ⟨p, b, t⟩⟩ := v
      simp only at a0 a1 a2 a3 a4 CI CB
      rw [← hvv] at HV HR2 CB
      clear hvv
      go_upto_region 4 with (fail)
      clear a0 a1 a2 a3 a4
      have hba : Below wr.heap.size wr (wr.alloc (.cells #[.int .i64 g, .int .i64 s, .int .i64 p, .int .i64 b, .string t] 75)) := (Below.refl _ _).alloc (Nat.le_refl _) _
      have Y := Lib.hid (Box.new wr 75 #[.int .i64 g, .int .i64 s, .int .i64 p, .int .i64 b, .string t])
      have X3 := Lib.hid (X2.out.below hba X2.out.lt)
      have HW3 := Lib.hid (bmore HW.out hba (Nat.le_refl _))
      have HRR3 := Lib.hid (HRR.out.below hba)
      clear hba HW X2 HRR
      generalize wr.alloc (.cells #[.int .i64 g, .int .i64 s, .int .i64 p, .int .i64 b, .string t] 75) = w3 at Y X3 HW3 HRR3 ⊢
      generalize wr.heap.size = h at Y ⊢
      have bb1 : Below w3.heap.size w3 w3.drew := (Below.refl _ _).drew
      cases r2
      · obtain rfl : r = false := by
          rw [HM.out, decide_eq_false_iff_not]
          intro hh
          have h1 := HR2.out
          rw [decide_eq_true (hh.1 _ (List.mem_of_getElem? HV.out))] at h1
          cases h1
        have HSS := Lib.hid (show ∀ w', Below w3.heap.size w3 w' → ((w'.cell? ⟨g0, 0, none⟩ = some (.slice A ls.length c) ∧ w'.cell? ⟨g0, 1, none⟩ = some (.slice (some ⟨bl, oo, none⟩) vs.length d)) ∧ (w'.cell? ⟨h, 0, none⟩ = some (.int .i64 g) ∧ w'.cell? ⟨h, 1, none⟩ = some (.int .i64 s) ∧ w'.cell? ⟨h, 2, none⟩ = some (.int .i64 p) ∧ w'.cell? ⟨h, 3, none⟩ = some (.int .i64 b) ∧ w'.cell? ⟨h, 4, none⟩ = some (.string t))) from fun w' hq => ⟨⟨(X3.out.below hq X3.out.lt).cell 0, (X3.out.below hq X3.out.lt).cell 1⟩, sn_five (Y.out.below hq Y.out.lt)⟩)
        obtain ⟨⟨_, _⟩, ⟨_, _, _, _, _⟩⟩ := HSS.out w3 (Below.refl _ _)
        clear X3 Y HRR3
        as_aux_lemma =>
          obtain ⟨ud, hud⟩ : ∃ ud, ud = w3.drew := ⟨_, rfl⟩
          refine wp_region_held_drew (S := fun w' => ((w'.cell? ⟨g0, 0, none⟩ = some (.slice A ls.length c) ∧ w'.cell? ⟨g0, 1, none⟩ = some (.slice (some ⟨bl, oo, none⟩) vs.length d)) ∧ (w'.cell? ⟨h, 0, none⟩ = some (.int .i64 g) ∧ w'.cell? ⟨h, 1, none⟩ = some (.int .i64 s) ∧ w'.cell? ⟨h, 2, none⟩ = some (.int .i64 p) ∧ w'.cell? ⟨h, 3, none⟩ = some (.int .i64 b) ∧ w'.cell? ⟨h, 4, none⟩ = some (.string t)))) (by kernel_rfl) (HSS.out _ bb1) (fun hHeld => ?_)
          rw [← hud] at bb1 hHeld ⊢
          clear hud
          refine qT 0 ?_; try simp only [Act.put, qq]
          refine qT 1 ?_; try simp only [Act.put, qq]
          refine wpAnyH_ready (rs := [2]) (by kernel_rfl) (by simp) ?_
          refine AllReadyH.cons rfl (fun K hK => ?_) AllReadyH.nil
          go_simp
          refine (CI.out _ (bmore HW3.out bb1 (Nat.le_refl _))).mono ?_
          rintro e1 w4 ⟨rfl, hb4⟩
          have bb2 : Below w3.heap.size w3 w4 := bb1.trans (hb4.mono bb1.size)
          clear hb4
          refine hK.out _ _ (HSS.out _ bb2) (fun hHeld => ?_)
          clear hK
          try simp only [Act.put, qq]
          refine qT 3 ?_; try simp only [Act.put, qq]
          refine qT 4 ?_; try simp only [Act.put, qq]
          refine qS 5 ?_; try simp only [Act.put, qq]
          refine qS 6 ?_; try simp only [Act.put, qq]
          refine qS 7 ?_; try simp only [Act.put, qq]
          refine qS 8 ?_; try simp only [Act.put, qq]
          refine qS 9 ?_; try simp only [Act.put, qq]
          refine qS 10 ?_; try simp only [Act.put, qq]
          refine qS 11 ?_; try simp only [Act.put, qq]
          refine qS 12 ?_; try simp only [Act.put, qq]
          refine qS 13 ?_; try simp only [Act.put, qq]
          refine qS 14 ?_; try simp only [Act.put, qq]
          refine qS 15 ?_; try simp only [Act.put, qq]
          refine qS 16 ?_; try simp only [Act.put, qq]
          refine qS 17 ?_; try simp only [Act.put, qq]
          refine qT 18 ?_; try simp only [Act.put, qq]
          refine wpAnyH_done (by kernel_rfl) ?_ _
          clear hHeld HSS
          go_wp2_with fail
          go_ret
          exact ⟨rfl, HB.out.trans ((bmore HW3.out bb2 (Nat.le_refl _)).mono HB.out.size)⟩
      have HSN := Lib.hid (show SM.snOk ls vv from of_decide_eq_true HR2.out.symm)
      rcases k with _ | j
      · have HN := Lib.hid (votes_first HV.out HSN.out)
        have t0 : decide ((0 : Int) < 0) = false := by decide
        have HSS := Lib.hid (show ∀ w', Below w3.heap.size w3 w' → ((w'.cell? ⟨g0, 0, none⟩ = some (.slice A ls.length c) ∧ w'.cell? ⟨g0, 1, none⟩ = some (.slice (some ⟨bl, oo, none⟩) vs.length d)) ∧ (w'.cell? ⟨h, 0, none⟩ = some (.int .i64 g) ∧ w'.cell? ⟨h, 1, none⟩ = some (.int .i64 s) ∧ w'.cell? ⟨h, 2, none⟩ = some (.int .i64 p) ∧ w'.cell? ⟨h, 3, none⟩ = some (.int .i64 b) ∧ w'.cell? ⟨h, 4, none⟩ = some (.string t))) from fun w' hq => ⟨⟨(X3.out.below hq X3.out.lt).cell 0, (X3.out.below hq X3.out.lt).cell 1⟩, sn_five (Y.out.below hq Y.out.lt)⟩)
        obtain ⟨⟨_, _⟩, ⟨_, _, _, _, _⟩⟩ := HSS.out w3 (Below.refl _ _)
        clear X3 Y HRR3
        as_aux_lemma =>
          obtain ⟨ud, hud⟩ : ∃ ud, ud = w3.drew := ⟨_, rfl⟩
          refine wp_region_held_drew (S := fun w' => ((w'.cell? ⟨g0, 0, none⟩ = some (.slice A ls.length c) ∧ w'.cell? ⟨g0, 1, none⟩ = some (.slice (some ⟨bl, oo, none⟩) vs.length d)) ∧ (w'.cell? ⟨h, 0, none⟩ = some (.int .i64 g) ∧ w'.cell? ⟨h, 1, none⟩ = some (.int .i64 s) ∧ w'.cell? ⟨h, 2, none⟩ = some (.int .i64 p) ∧ w'.cell? ⟨h, 3, none⟩ = some (.int .i64 b) ∧ w'.cell? ⟨h, 4, none⟩ = some (.string t)))) (by kernel_rfl) (HSS.out _ bb1) (fun hHeld => ?_)
          rw [← hud] at bb1 hHeld ⊢
          clear hud
          refine qT 0 ?_; try simp only [Act.put, qq]
          refine qT 1 ?_; try simp only [Act.put, qq]
          refine wpAnyH_ready (rs := [2]) (by kernel_rfl) (by simp) ?_
          refine AllReadyH.cons rfl (fun K hK => ?_) AllReadyH.nil
          go_simp
          refine (CI.out _ (bmore HW3.out bb1 (Nat.le_refl _))).mono ?_
          rintro e1 w4 ⟨rfl, hb4⟩
          have bb2 : Below w3.heap.size w3 w4 := bb1.trans (hb4.mono bb1.size)
          clear hb4
          refine hK.out _ _ (HSS.out _ bb2) (fun hHeld => ?_)
          clear hK
          try simp only [Act.put, qq]
          refine qT 3 ?_; try simp only [Act.put, qq]
          refine qT 4 ?_; try simp only [Act.put, qq]
          refine qT 5 ?_; try simp only [Act.put, qq]
          refine qT 6 ?_; try simp only [Act.put, qq]
          refine qT 7 ?_; try simp only [Act.put, qq]
          refine qS 8 ?_; try simp only [Act.put, qq]
          refine qS 9 ?_; try simp only [Act.put, qq]
          refine qS 10 ?_; try simp only [Act.put, qq]
          refine qS 11 ?_; try simp only [Act.put, qq]
          refine qS 12 ?_; try simp only [Act.put, qq]
          refine qS 13 ?_; try simp only [Act.put, qq]
          refine qS 14 ?_; try simp only [Act.put, qq]
          refine qS 15 ?_; try simp only [Act.put, qq]
          refine qS 16 ?_; try simp only [Act.put, qq]
          refine qT 17 ?_; try simp only [Act.put, qq]
          refine qT 18 ?_; try simp only [Act.put, qq]
          refine wpAnyH_done (by kernel_rfl) ?_ _
          clear hHeld HSS
          go_wp2_with fail
          go_roundw
          case rel => exact ⟨0 + 1, by omega, by go_num, Lib.hid (bmore HW3.out bb2 (Nat.le_refl _)), HN⟩
          case measure => simp [intOf]; omega
      obtain ⟨v0, hv0⟩ : ∃ v0, vs[j]? = some v0 := ⟨_, List.getElem?_eq_getElem (by omega)⟩
      have CA := Lib.hid (fun (w : World) => CB.out v0 w)
      obtain ⟨a0, a1, a2, a3, a4⟩ := rdg_sn HRR3.out hv0
      have habl : bl < w3.heap.size := cell_blk a0
      have HC := Lib.hid (SM.cmpS_neg (a := v0) (b := vv))
      have HV0 := Lib.hid hv0
      clear hv0 CB
      obtain ⟨z, hz⟩ : ∃ z, z = SM.cmpS v0 vv := ⟨_, rfl⟩
      rw [← hz] at CA HC
      clear hz
      generalize v0.g = ag at CA a0
      generalize v0.s = asl at CA a1
      generalize v0.o.p = ap at CA a2
      generalize v0.o.b = ab at CA a3
      generalize v0.o.v = av at CA a4
      have hj1 : decide ((0 : Int) < (j : Int) + 1) = true := by rw [decide_eq_true_iff]; omega
      have hj2 : (0 : Int) ≤ (j : Int) := by omega
      have hj3 : (j : Int) < (vs.length : Int) := by omega
      have hjw : IntKind.i64.wrap (j : Int) = (j : Int) := by simp [IntKind.wrap, IntKind.signed, IntKind.bits]; omega
      by_cases hz : z < 0
      · have HN := Lib.hid (votes_next HK.out HV0.out HV.out HSN.out (HC.out.1 hz))
        have t1 : decide (0 ≤ z) = false := by rw [decide_eq_false_iff_not]; omega
        have HSS := Lib.hid (show ∀ w', Below w3.heap.size w3 w' → (((w'.cell? ⟨g0, 0, none⟩ = some (.slice A ls.length c) ∧ w'.cell? ⟨g0, 1, none⟩ = some (.slice (some ⟨bl, oo, none⟩) vs.length d)) ∧ (w'.cell? ⟨h, 0, none⟩ = some (.int .i64 g) ∧ w'.cell? ⟨h, 1, none⟩ = some (.int .i64 s) ∧ w'.cell? ⟨h, 2, none⟩ = some (.int .i64 p) ∧ w'.cell? ⟨h, 3, none⟩ = some (.int .i64 b) ∧ w'.cell? ⟨h, 4, none⟩ = some (.string t))) ∧ (w'.cell? ⟨bl, oo + j * 5, none⟩ = some (.int .i64 ag) ∧ w'.cell? ⟨bl, oo + j * 5 + 1, none⟩ = some (.int .i64 asl) ∧ w'.cell? ⟨bl, oo + j * 5 + 2, none⟩ = some (.int .i64 ap) ∧ w'.cell? ⟨bl, oo + j * 5 + 3, none⟩ = some (.int .i64 ab) ∧ w'.cell? ⟨bl, oo + j * 5 + 4, none⟩ = some (.string av))) from fun w' hq => ⟨⟨⟨(X3.out.below hq X3.out.lt).cell 0, (X3.out.below hq X3.out.lt).cell 1⟩, sn_five (Y.out.below hq Y.out.lt)⟩, ⟨(hq.cell habl).trans a0, (hq.cell habl).trans a1, (hq.cell habl).trans a2, (hq.cell habl).trans a3, (hq.cell habl).trans a4⟩⟩)
        obtain ⟨⟨⟨_, _⟩, ⟨_, _, _, _, _⟩⟩, _, _, _, _, _⟩ := HSS.out w3 (Below.refl _ _)
        clear X3 Y HRR3 a0 a1 a2 a3 a4 habl
        as_aux_lemma =>
          obtain ⟨ud, hud⟩ : ∃ ud, ud = w3.drew := ⟨_, rfl⟩
          refine wp_region_held_drew (S := fun w' => (((w'.cell? ⟨g0, 0, none⟩ = some (.slice A ls.length c) ∧ w'.cell? ⟨g0, 1, none⟩ = some (.slice (some ⟨bl, oo, none⟩) vs.length d)) ∧ (w'.cell? ⟨h, 0, none⟩ = some (.int .i64 g) ∧ w'.cell? ⟨h, 1, none⟩ = some (.int .i64 s) ∧ w'.cell? ⟨h, 2, none⟩ = some (.int .i64 p) ∧ w'.cell? ⟨h, 3, none⟩ = some (.int .i64 b) ∧ w'.cell? ⟨h, 4, none⟩ = some (.string t))) ∧ (w'.cell? ⟨bl, oo + j * 5, none⟩ = some (.int .i64 ag) ∧ w'.cell? ⟨bl, oo + j * 5 + 1, none⟩ = some (.int .i64 asl) ∧ w'.cell? ⟨bl, oo + j * 5 + 2, none⟩ = some (.int .i64 ap) ∧ w'.cell? ⟨bl, oo + j * 5 + 3, none⟩ = some (.int .i64 ab) ∧ w'.cell? ⟨bl, oo + j * 5 + 4, none⟩ = some (.string av)))) (by kernel_rfl) (HSS.out _ bb1) (fun hHeld => ?_)
          rw [← hud] at bb1 hHeld ⊢
          clear hud
          refine qT 0 ?_; try simp only [Act.put, qq]
          refine qT 1 ?_; try simp only [Act.put, qq]
          refine wpAnyH_ready (rs := [2]) (by kernel_rfl) (by simp) ?_
          refine AllReadyH.cons rfl (fun K hK => ?_) AllReadyH.nil
          go_simp
          refine (CI.out _ (bmore HW3.out bb1 (Nat.le_refl _))).mono ?_
          rintro e1 w4 ⟨rfl, hb4⟩
          have bb2 : Below w3.heap.size w3 w4 := bb1.trans (hb4.mono bb1.size)
          clear hb4
          refine hK.out _ _ (HSS.out _ bb2) (fun hHeld => ?_)
          clear hK
          try simp only [Act.put, qq]
          refine qT 3 ?_; try simp only [Act.put, qq]
          refine qT 4 ?_; try simp only [Act.put, qq]
          refine qT 5 ?_; try simp only [Act.put, qq]
          refine qT 6 ?_; try simp only [Act.put, qq]
          refine qT 7 ?_; try simp only [Act.put, qq]
          refine qT 8 ?_; try simp only [Act.put, qq]
          refine qT 9 ?_; try simp only [Act.put, qq]
          refine qT 10 ?_; try simp only [Act.put, qq]
          refine qT 11 ?_; try simp only [Act.put, qq]
          refine qT 12 ?_; try simp only [Act.put, qq]
          refine qT 13 ?_; try simp only [Act.put, qq]
          refine qT 14 ?_; try simp only [Act.put, qq]
          refine wpAnyH_ready (rs := [15]) (by kernel_rfl) (by simp) ?_
          refine AllReadyH.cons rfl (fun K hK => ?_) AllReadyH.nil
          go_simp
          refine (CA.out _).mono ?_
          rintro e1 w5 ⟨rfl, hb5⟩
          have bb3 : Below w3.heap.size w3 w5 := bb2.trans (hb5.mono bb2.size)
          clear hb5
          refine hK.out _ _ (HSS.out _ bb3) (fun hHeld => ?_)
          clear hK
          try simp only [Act.put, qq]
          refine qT 16 ?_; try simp only [Act.put, qq]
          refine qT 17 ?_; try simp only [Act.put, qq]
          refine qT 18 ?_; try simp only [Act.put, qq]
          refine wpAnyH_done (by kernel_rfl) ?_ _
          clear hHeld HSS
          go_wp2_with fail
          go_roundw
          case rel => exact ⟨j + 1 + 1, by omega, by go_num, Lib.hid (bmore HW3.out bb3 (Nat.le_refl _)), HN⟩
          case measure => simp [intOf]; omega
      · obtain rfl : r = false := by
          rw [HM.out, decide_eq_false_iff_not]
          intro hh
          exact hz (HC.out.2 ((SM.rise_get.1 hh.2) j v0 _ HV0.out HV.out))
        have t1 : decide (0 ≤ z) = true := by rw [decide_eq_true_iff]; omega
        have HSS := Lib.hid (show ∀ w', Below w3.heap.size w3 w' → (((w'.cell? ⟨g0, 0, none⟩ = some (.slice A ls.length c) ∧ w'.cell? ⟨g0, 1, none⟩ = some (.slice (some ⟨bl, oo, none⟩) vs.length d)) ∧ (w'.cell? ⟨h, 0, none⟩ = some (.int .i64 g) ∧ w'.cell? ⟨h, 1, none⟩ = some (.int .i64 s) ∧ w'.cell? ⟨h, 2, none⟩ = some (.int .i64 p) ∧ w'.cell? ⟨h, 3, none⟩ = some (.int .i64 b) ∧ w'.cell? ⟨h, 4, none⟩ = some (.string t))) ∧ (w'.cell? ⟨bl, oo + j * 5, none⟩ = some (.int .i64 ag) ∧ w'.cell? ⟨bl, oo + j * 5 + 1, none⟩ = some (.int .i64 asl) ∧ w'.cell? ⟨bl, oo + j * 5 + 2, none⟩ = some (.int .i64 ap) ∧ w'.cell? ⟨bl, oo + j * 5 + 3, none⟩ = some (.int .i64 ab) ∧ w'.cell? ⟨bl, oo + j * 5 + 4, none⟩ = some (.string av))) from fun w' hq => ⟨⟨⟨(X3.out.below hq X3.out.lt).cell 0, (X3.out.below hq X3.out.lt).cell 1⟩, sn_five (Y.out.below hq Y.out.lt)⟩, ⟨(hq.cell habl).trans a0, (hq.cell habl).trans a1, (hq.cell habl).trans a2, (hq.cell habl).trans a3, (hq.cell habl).trans a4⟩⟩)
        obtain ⟨⟨⟨_, _⟩, ⟨_, _, _, _, _⟩⟩, _, _, _, _, _⟩ := HSS.out w3 (Below.refl _ _)
        clear X3 Y HRR3 a0 a1 a2 a3 a4 habl
        as_aux_lemma =>
          obtain ⟨ud, hud⟩ : ∃ ud, ud = w3.drew := ⟨_, rfl⟩
          refine wp_region_held_drew (S := fun w' => (((w'.cell? ⟨g0, 0, none⟩ = some (.slice A ls.length c) ∧ w'.cell? ⟨g0, 1, none⟩ = some (.slice (some ⟨bl, oo, none⟩) vs.length d)) ∧ (w'.cell? ⟨h, 0, none⟩ = some (.int .i64 g) ∧ w'.cell? ⟨h, 1, none⟩ = some (.int .i64 s) ∧ w'.cell? ⟨h, 2, none⟩ = some (.int .i64 p) ∧ w'.cell? ⟨h, 3, none⟩ = some (.int .i64 b) ∧ w'.cell? ⟨h, 4, none⟩ = some (.string t))) ∧ (w'.cell? ⟨bl, oo + j * 5, none⟩ = some (.int .i64 ag) ∧ w'.cell? ⟨bl, oo + j * 5 + 1, none⟩ = some (.int .i64 asl) ∧ w'.cell? ⟨bl, oo + j * 5 + 2, none⟩ = some (.int .i64 ap) ∧ w'.cell? ⟨bl, oo + j * 5 + 3, none⟩ = some (.int .i64 ab) ∧ w'.cell? ⟨bl, oo + j * 5 + 4, none⟩ = some (.string av)))) (by kernel_rfl) (HSS.out _ bb1) (fun hHeld => ?_)
          rw [← hud] at bb1 hHeld ⊢
          clear hud
          refine qT 0 ?_; try simp only [Act.put, qq]
          refine qT 1 ?_; try simp only [Act.put, qq]
          refine wpAnyH_ready (rs := [2]) (by kernel_rfl) (by simp) ?_
          refine AllReadyH.cons rfl (fun K hK => ?_) AllReadyH.nil
          go_simp
          refine (CI.out _ (bmore HW3.out bb1 (Nat.le_refl _))).mono ?_
          rintro e1 w4 ⟨rfl, hb4⟩
          have bb2 : Below w3.heap.size w3 w4 := bb1.trans (hb4.mono bb1.size)
          clear hb4
          refine hK.out _ _ (HSS.out _ bb2) (fun hHeld => ?_)
          clear hK
          try simp only [Act.put, qq]
          refine qT 3 ?_; try simp only [Act.put, qq]
          refine qT 4 ?_; try simp only [Act.put, qq]
          refine qT 5 ?_; try simp only [Act.put, qq]
          refine qT 6 ?_; try simp only [Act.put, qq]
          refine qT 7 ?_; try simp only [Act.put, qq]
          refine qT 8 ?_; try simp only [Act.put, qq]
          refine qT 9 ?_; try simp only [Act.put, qq]
          refine qT 10 ?_; try simp only [Act.put, qq]
          refine qT 11 ?_; try simp only [Act.put, qq]
          refine qT 12 ?_; try simp only [Act.put, qq]
          refine qT 13 ?_; try simp only [Act.put, qq]
          refine qT 14 ?_; try simp only [Act.put, qq]
          refine wpAnyH_ready (rs := [15]) (by kernel_rfl) (by simp) ?_
          refine AllReadyH.cons rfl (fun K hK => ?_) AllReadyH.nil
          go_simp
          refine (CA.out _).mono ?_
          rintro e1 w5 ⟨rfl, hb5⟩
          have bb3 : Below w3.heap.size w3 w5 := bb2.trans (hb5.mono bb2.size)
          clear hb5
          refine hK.out _ _ (HSS.out _ bb3) (fun hHeld => ?_)
          clear hK
          try simp only [Act.put, qq]
          refine qT 16 ?_; try simp only [Act.put, qq]
          refine qT 17 ?_; try simp only [Act.put, qq]
          refine qT 18 ?_; try simp only [Act.put, qq]
          refine wpAnyH_done (by kernel_rfl) ?_ _
          clear hHeld HSS
          go_wp2_with fail
          go_ret
          exact ⟨rfl, HB.out.trans ((bmore HW3.out bb3 (Nat.le_refl _)).mono HB.out.size)⟩
    · obtain rfl : r = true := by
        rw [HM.out, decide_eq_true_iff]
        have := HK.out
        rwa [List.take_of_length_le (by omega)] at this
      go_wp2_with fail
      go_ret
      exact ⟨rfl, HB.out.trans (HW.out.mono HB.out.size)⟩
set_option maxHeartbeats 4000000 in
theorem check_any (v : Value) (x : Sb) (W : World) (H : StIs W v x) (F : Fit x) :
    Calls Try.prog 26 #[v] W fun e w' => e = .returned (.int .i64 (if SM.may x then 0 else 8)) ∧ Below W.heap.size W w' := by
  obtain ⟨A, c, B, d, rfl, hL, hV⟩ := H
  obtain ⟨F1, F2⟩ := F
  obtain ⟨z, hz⟩ : ∃ z : Int, z = if SM.may x then 0 else 8 := ⟨_, rfl⟩
  rw [← hz]
  have hb0 : Below W.heap.size W (W.alloc (.cells #[.slice A x.logs.length c, .slice B x.votes.length d] 25)) := (Below.refl _ _).alloc (Nat.le_refl _) _
  have HB := Lib.hid hb0
  have X := Lib.hid (Box.new W 25 #[.slice A x.logs.length c, .slice B x.votes.length d])
  have CL := Lib.hid (arelogs_any A x.logs.length c x.logs _ (hL.below hb0) F1)
  have CV := Lib.hid (arevotes_any A B c d x.logs x.votes _ (hL.below hb0) (hV.below hb0) F2)
  clear hb0 hL hV F1 F2
  go_enter Try.func26, Try.ntmps26
  go_upto_region 1 with (fail)
  generalize W.alloc (.cells #[.slice A x.logs.length c, .slice B x.votes.length d] 25) = w1 at HB X CL CV ⊢
  generalize W.heap.size = g0 at X ⊢
  obtain ⟨x0, x1, _, _⟩ := X.out.two
  by_cases h1 : logsOk x.logs
  · rw [decide_eq_true h1] at CL
    by_cases h2 : votesOk x.logs x.votes
    · rw [decide_eq_true h2] at CV
      obtain rfl : z = 0 := by rw [hz, if_pos (may_parts.2 ⟨h1, h2⟩)]
      clear hz h1 h2
      go_wp2_with fail
      refine (CL.out).mono ?_
      rintro e w2 ⟨rfl, rfl⟩
      go_wp2_with fail
      refine (CV.out).mono ?_
      rintro e w2 ⟨rfl, hb⟩
      have HB2 := Lib.hid (HB.out.trans (hb.mono HB.out.size))
      clear hb
      go_wp2_with fail
      go_ret
      exact ⟨rfl, HB2.out⟩
    · rw [decide_eq_false h2] at CV
      obtain rfl : z = 8 := by rw [hz, if_neg fun h => h2 (may_parts.1 h).2]
      clear hz h1 h2
      go_wp2_with fail
      refine (CL.out).mono ?_
      rintro e w2 ⟨rfl, rfl⟩
      go_wp2_with fail
      refine (CV.out).mono ?_
      rintro e w2 ⟨rfl, hb⟩
      have HB2 := Lib.hid (HB.out.trans (hb.mono HB.out.size))
      clear hb
      go_wp2_with fail
      go_ret
      exact ⟨rfl, HB2.out⟩
  · rw [decide_eq_false h1] at CL
    obtain rfl : z = 8 := by rw [hz, if_neg fun h => h1 (may_parts.1 h).1]
    clear hz h1 CV
    go_wp2_with fail
    refine (CL.out).mono ?_
    rintro e w2 ⟨rfl, rfl⟩
    go_wp2_with fail
    go_ret
    exact ⟨rfl, HB.out⟩
end Go.Proofs.Ytohiemdodffhoaa.SP

namespace Go.Proofs.Ytohiemdodffhoaa.SP
open Go.RowKit
open SM (Sn Sb Vo)
set_option linter.unusedVariables false
set_option linter.unusedSimpArgs false
set_option maxRecDepth 100000

theorem do_any (g0 base : Nat) (vL vV : Value) (x : Sb) (k g s b : Int) (t : ByteArray) (W : World) (hb : base ≤ W.heap.size) (hS : Box W g0 25 #[vL, vV]) (hO : StOwn W base (.agg #[vL, vV]) x) (hm : SM.may x) (hr : RM.may ⟨k, g, s, b, t⟩) :
    Calls Try.prog 38 #[.pointer (some ⟨g0, 0, none⟩), .agg #[.int .u8 k, .int .i64 g, .int .i64 s, .int .i64 b, .string t]] W (DoPost base g0 x ⟨k, g, s, b, t⟩ W) := by
  obtain ⟨A, c, B, d, e, _, _⟩ := hO.is
  injection e with e
  injection e with e
  injection e with e1 e
  injection e with e2
  subst e1
  subst e2
  by_cases hw : wrF x.logs k g s = 0
  · have hk := RM.may_k hr
    simp only at hk
    rcases (show k = 1 ∨ k = 2 ∨ k = 3 by omega) with rfl | rfl | rfl
    · exact do_1 g0 base A B c d x g s b t W hb hS hO hm hr hw
    · exact do_2 g0 base A B c d x g s b t W hb hS hO hm hr hw
    · have hg := (wr_ok hw).1.1
      obtain ⟨gi, rfl⟩ : ∃ gi : Nat, g = gi := ⟨g.toNat, by omega⟩
      exact do_3 g0 base A B c d x gi s b t W hb hS hO hm hr hw
  · exact do_wr g0 base A B c d x k g s b t W hb hS hO hm hr hw
/-- what Apply answers, in memory of its own -/
def AppOwn (x : Sb) (r : RM.Rc) (W : World) (e : Ending) (w' : World) : Prop := ∃ v', e = .returned (.tuple #[v', .int .i64 (SM.appF x r).2]) ∧ StOwn w' W.heap.size v' (SM.appF x r).1 ∧ Below W.heap.size W w'
theorem apo_err {W wr : World} {g0 : Nat} {X R : Array Value} {x : Sb} {r : RM.Rc} {e : Int} (h : ApR W g0 X R wr) (he : SM.appF x r = (SM.zero, e)) :
    AppOwn x r W (.returned (.tuple #[.agg #[.slice none 0 0, .slice none 0 0], .int .i64 e])) ((wr.setCell ⟨g0 + 1 + 1, 0, none⟩ (.slice none 0 0)).setCell ⟨g0 + 1 + 1, 1, none⟩ (.slice none 0 0)) :=
  ⟨_, by rw [he], by rw [he]; exact own_zero _ _, (h.bl.setCell (p := ⟨g0 + 1 + 1, 0, none⟩) (by show _ ≤ g0 + 1 + 1; have := h.hg; omega) _).setCell (p := ⟨g0 + 1 + 1, 1, none⟩) (by show _ ≤ g0 + 1 + 1; have := h.hg; omega) _⟩
theorem apo_fin {W wr : World} {g0 : Nat} {x : Sb} {r : RM.Rc} {vL vV : Value} (hb : Below W.heap.size W wr) (hg : g0 = W.heap.size) (bz : Box wr (g0 + 1 + 1) 25 #[.slice none 0 0, .slice none 0 0]) (he : (SM.appF x r).2 = 0) (h : StOwn wr W.heap.size (.agg #[vL, vV]) (SM.appF x r).1) :
    AppOwn x r W (.returned (.tuple #[.agg #[vL, vV], .int .i64 0])) ((wr.setCell ⟨g0 + 1 + 1, 0, none⟩ vL).setCell ⟨g0 + 1 + 1, 1, none⟩ vV) := by
  have b1 := bz.stored 0 vL
  have k2 : Kept isSt wr ((wr.setCell ⟨g0 + 1 + 1, 0, none⟩ vL).setCell ⟨g0 + 1 + 1, 1, none⟩ vV) := (Kept.set (S := isSt) bz rfl _).trans (Kept.set (S := isSt) b1 rfl _)
  exact ⟨_, by rw [he], h.kept k2 (by unfold isSt; decide) (by unfold isSt; decide) (by unfold isSt; decide), (hb.setCell (p := ⟨g0 + 1 + 1, 0, none⟩) (by show _ ≤ g0 + 1 + 1; omega) _).setCell (p := ⟨g0 + 1 + 1, 1, none⟩) (by show _ ≤ g0 + 1 + 1; omega) _⟩
theorem app_bad {x : Sb} {r : RM.Rc} (h : ¬ SM.may x ∨ ¬ RM.may r) : SM.appF x r = (SM.zero, 8) := by unfold SM.appF; rw [if_pos h]
set_option maxHeartbeats 8000000 in
theorem apply_any (v : Value) (x : Sb) (k g s b : Int) (t : ByteArray) (W : World) (H : StIs W v x) (F : Fit x) (ht : t.size ≤ maxLen) (h1 : -9223372036854775808 ≤ b) (h2 : b ≤ 9223372036854775807) :
    Calls Try.prog 14 #[v, .agg #[.int .u8 k, .int .i64 g, .int .i64 s, .int .i64 b, .string t]] W (AppOwn x ⟨k, g, s, b, t⟩ W) := by
  obtain ⟨A, c, B, d, rfl, hL, hV⟩ := H
  obtain ⟨e2, he2⟩ := RP.chkIs_ex ⟨k, g, s, b, t⟩
  have HI := Lib.hid (fun w (h : Below W.heap.size W w) => (show StIs w (.agg #[.slice A x.logs.length c, .slice B x.votes.length d]) x from ⟨A, c, B, d, rfl, hL.below h, hV.below h⟩))
  have S0 := Lib.hid (ap_new (W := W) (X := #[.slice A x.logs.length c, .slice B x.votes.length d]) (R := #[.int .u8 k, .int .i64 g, .int .i64 s, .int .i64 b, .string t]))
  have CC := Lib.hid (fun (w : World) (h : Below W.heap.size W w) => check_any (.agg #[.slice A x.logs.length c, .slice B x.votes.length d]) x w (HI.out w h) F)
  have CR := Lib.hid (fun (w : World) => RP.chk_any k g s b t he2 h1 h2 ht w)
  have HE2 := Lib.hid he2
  clear hL hV F he2
  go_enter Try.func14, Try.ntmps14
  go_upto_region 1 with (fail)
  generalize ((W.alloc (.cells #[.slice A x.logs.length c, .slice B x.votes.length d] 25)).alloc (.cells #[.int .u8 k, .int .i64 g, .int .i64 s, .int .i64 b, .string t] 29)).alloc (.cells #[.slice none 0 0, .slice none 0 0] 25) = w1 at S0 ⊢
  obtain ⟨g0, hg0⟩ : ∃ g0, W.heap.size = g0 := ⟨_, rfl⟩
  have S := Lib.hid (show ApR W g0 #[.slice A x.logs.length c, .slice B x.votes.length d] #[.int .u8 k, .int .i64 g, .int .i64 s, .int .i64 b, .string t] w1 by rw [← hg0]; exact S0.out)
  simp only [hg0]
  have HG := Lib.hid hg0
  clear hg0 S0
  obtain ⟨x0, x1, _, _⟩ := S.out.bx.two
  go_wp2_with fail
  refine (CC.out w1 S.out.bl).mono ?_
  rintro e w2 ⟨rfl, hb⟩
  replace S := Lib.hid (S.out.below hb)
  clear hb x0 x1 CC
  obtain ⟨x0, x1, _, _⟩ := S.out.bx.two
  obtain ⟨r0, r1, r2, r3, r4⟩ := sn_five S.out.br
  obtain ⟨z0, z1, f0, f1⟩ := S.out.bz.two
  by_cases hm : SM.may x
  case neg =>
    rw [if_neg hm]
    have HE := Lib.hid (app_bad (r := ⟨k, g, s, b, t⟩) (.inl hm))
    clear hm
    go_wp2_with fail
    exact bodyPost_ret (v := .tuple #[.agg #[.slice none 0 0, .slice none 0 0], .int .i64 8]) (by simp [results, Try.results14, go_sem, z0, z1]; try rfl) rfl (apo_err S.out HE.out)
  rw [if_pos hm]
  have HM := Lib.hid hm
  clear hm
  go_wp2_with fail
  refine (CR.out w2).mono ?_
  rintro e w3 ⟨rfl, hb⟩
  replace S := Lib.hid (S.out.below hb)
  clear hb x0 x1 r0 r1 r2 r3 r4 z0 z1 f0 f1 CR
  obtain ⟨x0, x1, _, _⟩ := S.out.bx.two
  obtain ⟨z0, z1, f0, f1⟩ := S.out.bz.two
  by_cases hr : RM.may ⟨k, g, s, b, t⟩
  case neg =>
    obtain rfl : e2 = 8 := by
      rcases HE2.out with ⟨h, _⟩ | ⟨_, h⟩
      · exact absurd h hr
      · exact h
    have HE := Lib.hid (app_bad (x := x) (.inr hr))
    clear hr
    go_wp2_with fail
    exact bodyPost_ret (v := .tuple #[.agg #[.slice none 0 0, .slice none 0 0], .int .i64 8]) (by simp [results, Try.results14, go_sem, z0, z1]; try rfl) rfl (apo_err S.out HE.out)
  obtain rfl : e2 = 0 := by
    rcases HE2.out with ⟨_, h⟩ | ⟨h, _⟩
    · exact h
    · exact absurd hr h
  have HR := Lib.hid hr
  clear hr HE2
  have CT := Lib.hid (twin_any (.agg #[.slice A x.logs.length c, .slice B x.votes.length d]) x w3 (HI.out _ S.out.bl) ⟨Nat.le_trans HM.out.1.2 (by decide), fun l hl => Nat.le_trans ((SM.may_logs HM.out).1 l hl) (by decide), Nat.le_trans (SM.votes_le HM.out) (by decide)⟩)
  go_wp2_with fail
  refine (CT.out).mono ?_
  rintro e w4 ⟨v4, rfl, ho, hb⟩
  have hs3 := S.out.bl.size
  have hbz := S.out.bz.lt
  obtain ⟨vL, vV, rows, rfl, o1, o2, o3, o4⟩ := ho
  have HO := Lib.hid (show StOwn w4 w3.heap.size (.agg #[vL, vV]) x from ⟨vL, vV, rows, rfl, o1, o2, o3, o4⟩)
  obtain ⟨A2, c2, rfl, _, _⟩ := own_form o1
  obtain ⟨B2, d2, rfl, _, _⟩ := own_form o4
  clear o1 o2 o3 o4 x0 x1 z0 z1 f0 f1 CT
  replace S := Lib.hid (S.out.below hb)
  have hs4 := hb.size
  clear hb
  obtain ⟨x0, x1, y0, y1⟩ := S.out.bx.two
  obtain ⟨r0, r1, r2, r3, r4⟩ := sn_five S.out.br
  have bx1 := S.out.bx.stored 0 (.slice A2 x.logs.length c2)
  have k1 : Kept isSt w4 ((w4.setCell ⟨g0, 0, none⟩ (.slice A2 x.logs.length c2)).setCell ⟨g0, 1, none⟩ (.slice B2 x.votes.length d2)) := (Kept.set (S := isSt) S.out.bx rfl _).trans (Kept.set (S := isSt) bx1 rfl _)
  have BX := Lib.hid (show Box ((w4.setCell ⟨g0, 0, none⟩ (.slice A2 x.logs.length c2)).setCell ⟨g0, 1, none⟩ (.slice B2 x.votes.length d2)) g0 25 #[.slice A2 x.logs.length c2, .slice B2 x.votes.length d2] by simpa using bx1.stored 1 (.slice B2 x.votes.length d2))
  have BR := Lib.hid (k1.box _ _ _ (by unfold isSt; decide) S.out.br)
  have BZ := Lib.hid ((S.out.bz.far (p := ⟨g0, 0, none⟩) (by show g0 + 1 + 1 ≠ g0; omega) (.slice A2 x.logs.length c2)).far (p := ⟨g0, 1, none⟩) (by show g0 + 1 + 1 ≠ g0; omega) (.slice B2 x.votes.length d2))
  have BO := Lib.hid (HO.out.kept k1 (by unfold isSt; decide) (by unfold isSt; decide) (by unfold isSt; decide))
  have BL := Lib.hid ((S.out.bl.setCell (p := ⟨g0, 0, none⟩) (by show _ ≤ g0; have := HG.out; omega) (.slice A2 x.logs.length c2)).setCell (p := ⟨g0, 1, none⟩) (by show _ ≤ g0; have := HG.out; omega) (.slice B2 x.votes.length d2))
  have HSZ := Lib.hid (show w3.heap.size ≤ ((w4.setCell ⟨g0, 0, none⟩ (.slice A2 x.logs.length c2)).setCell ⟨g0, 1, none⟩ (.slice B2 x.votes.length d2)).heap.size by simpa [World.setCell] using hs4)
  have HBZ := Lib.hid hbz
  clear k1 bx1 S HO hbz hs4
  go_upto_region 8 with (fail)
  clear x0 x1 y0 y1 r0 r1 r2 r3 r4
  generalize (w4.setCell ⟨g0, 0, none⟩ (.slice A2 x.logs.length c2)).setCell ⟨g0, 1, none⟩ (.slice B2 x.votes.length d2) = w5 at BX BR BZ BO BL HSZ ⊢
  have CD := Lib.hid (do_any g0 w3.heap.size _ _ x k g s b t w5 HSZ.out BX.out BO.out HM.out HR.out)
  obtain ⟨r0, r1, r2, r3, r4⟩ := sn_five BR.out
  go_wp2_with fail
  refine (CD.out).mono ?_
  rintro e w6 ⟨rfl, hk, hok⟩
  clear r0 r1 r2 r3 r4 CD
  have HG2 := Lib.hid (show W.heap.size = g0 from HG.out)
  have BL6 := Lib.hid (show Below W.heap.size W w6 from BL.out.trans (hk.toBelow hs3 (by have := HG.out; omega)))
  have BZ6 := Lib.hid (hk.box BZ.out HBZ.out (by omega))
  have HOK := Lib.hid hok
  clear hk hok BX BR BZ BO BL
  obtain ⟨z0, z1, f0, f1⟩ := BZ6.out.two
  obtain ⟨q, hq⟩ : ∃ q, q = SM.appF x ⟨k, g, s, b, t⟩ := ⟨_, rfl⟩
  rw [← hq] at HOK ⊢
  have HQ := Lib.hid hq
  clear hq
  obtain ⟨y2, e3⟩ := q
  simp only at HOK ⊢
  by_cases he : e3 = 0
  · subst he
    obtain ⟨uL, uV, hbx, hst⟩ := HOK.out rfl
    obtain ⟨A3, c3, B3, d3, e, _, _⟩ := hst.is
    injection e with e
    injection e with e
    injection e with e1 e
    injection e with e2
    subst e1
    subst e2
    have FI := Lib.hid (apo_fin (x := x) (r := ⟨k, g, s, b, t⟩) BL6.out HG.out.symm BZ6.out (by rw [← HQ.out]) (by rw [← HQ.out]; exact hst.base hs3))
    obtain ⟨x0, x1, y0, y1⟩ := hbx.two
    clear hbx hst HOK
    go_wp2_with fail
    exact bodyPost_ret (v := .tuple #[.agg #[.slice A3 y2.logs.length c3, .slice B3 y2.votes.length d3], .int .i64 0]) (by simp [results, Try.results14, go_sem, z0, z1]; try rfl) rfl FI.out
  · have heb : (e3 != 0) = true := by simpa using he
    have HE := Lib.hid (show SM.appF x ⟨k, g, s, b, t⟩ = (SM.zero, e3) by
      have h1 := SM.app_zero (x := x) (r := ⟨k, g, s, b, t⟩) (by rw [← HQ.out]; exact he)
      rw [← HQ.out] at h1 ⊢
      simp only at h1
      rw [h1])
    have FI := Lib.hid (show AppOwn x ⟨k, g, s, b, t⟩ W (.returned (.tuple #[.agg #[.slice none 0 0, .slice none 0 0], .int .i64 e3])) ((w6.setCell ⟨g0 + 1 + 1, 0, none⟩ (.slice none 0 0)).setCell ⟨g0 + 1 + 1, 1, none⟩ (.slice none 0 0)) from
      ⟨_, by rw [HE.out], by rw [HE.out]; exact own_zero _ _, (BL6.out.setCell (p := ⟨g0 + 1 + 1, 0, none⟩) (by show _ ≤ g0 + 1 + 1; have := HG.out; omega) _).setCell (p := ⟨g0 + 1 + 1, 1, none⟩) (by show _ ≤ g0 + 1 + 1; have := HG.out; omega) _⟩)
    clear he HOK
    go_wp2_with fail
    exact bodyPost_ret (v := .tuple #[.agg #[.slice none 0 0, .slice none 0 0], .int .i64 e3]) (by simp [results, Try.results14, go_sem, z0, z1]; try rfl) rfl FI.out
end Go.Proofs.Ytohiemdodffhoaa.SP

namespace Go.Proofs.Ytohiemdodffhoaa.SP
open Go.RowKit Go.Shelf
open SM (Sn Sb Vo)
set_option linter.unusedVariables false
set_option linter.unusedSimpArgs false
set_option maxRecDepth 100000

/-- Replay's variables -/
structure RqR (W : World) (g0 g1 base : Nat) (vL vV : Value) (y : Sb) (wr : World) : Prop where
  bl : Below W.heap.size W wr
  hg : g0 = W.heap.size
  h0 : g0 < base
  h1 : base ≤ g1
  bz : Box wr g0 25 #[.slice none 0 0, .slice none 0 0]
  bs : Box wr g1 25 #[vL, vV]
  ow : StOwn wr base (.agg #[vL, vV]) y
theorem RqR.below {W wr wr' : World} {g0 g1 base : Nat} {vL vV : Value} {y : Sb} (h : RqR W g0 g1 base vL vV y wr) (hb : Below wr.heap.size wr wr') : RqR W g0 g1 base vL vV y wr' :=
  ⟨bmore h.bl hb (Nat.le_refl _), h.hg, h.h0, h.h1, h.bz.below hb h.bz.lt, h.bs.below hb h.bs.lt, h.ow.below hb⟩
theorem RqR.did {W wr wr' : World} {g0 g1 base : Nat} {vL vV uL uV : Value} {y z : Sb} (h : RqR W g0 g1 base vL vV y wr) (k : DoKeep base g1 wr wr') (hx : Box wr' g1 25 #[uL, uV]) (ho : StOwn wr' base (.agg #[uL, uV]) z) : RqR W g0 g1 base uL uV z wr' := by
  have h0 := h.h0
  have h1 := h.h1
  have hg := h.hg
  exact ⟨h.bl.trans (k.toBelow (by omega) (by omega)), h.hg, h.h0, h.h1, k.box h.bz h0 (by omega), hx, ho⟩
theorem rq_err {n : Int} {l : List ByteArray} {W wr : World} {g0 : Nat} {e : Int} (h : Below W.heap.size W wr) (hg : g0 = W.heap.size) (he : SM.replayF n (tb l) = (SM.zero, e)) :
    RpPost n l W (.returned (.tuple #[.agg #[.slice none 0 0, .slice none 0 0], .int .i64 e])) ((wr.setCell ⟨g0, 0, none⟩ (.slice none 0 0)).setCell ⟨g0, 1, none⟩ (.slice none 0 0)) := rp_err h hg he
theorem rq_fin {n : Int} {l : List ByteArray} {W wr : World} {g0 g1 base : Nat} {vL vV : Value} {y : Sb} (h : RqR W g0 g1 base vL vV y wr) (he : SM.replayF n (tb l) = (y, 0)) :
    RpPost n l W (.returned (.tuple #[.agg #[vL, vV], .int .i64 0])) ((wr.setCell ⟨g0, 0, none⟩ vL).setCell ⟨g0, 1, none⟩ vV) :=
  rp_fin ⟨h.bl, h.hg, by have := h.h0; have := h.h1; omega, h.bz, h.bs, h.ow.ty⟩ he
theorem new_may {n : Int} (h : (SM.newF n).2 = 0) : SM.may (SM.newF n).1 := by
  unfold SM.newF at h ⊢
  by_cases h1 : n < 1 ∨ 4 < n
  · rw [if_pos h1] at h; exact absurd h (by decide)
  · rw [if_neg h1]
    refine ⟨⟨by simp; omega, by simp; omega⟩, fun l hl => ?_, fun v hv => (by cases hv), rfl⟩
    rw [List.eq_of_mem_replicate hl]
    exact ⟨by simp, fun v hv => (by cases hv)⟩
set_option maxHeartbeats 16000000 in
theorem replay_any (n : Int) (A : Option Addr) (m c : Nat) (l : List ByteArray) (W : World) (hr : Rd W A m (SP.tc l)) (hs : ∀ v ∈ l, v.size ≤ maxLen) (hmc : m ≤ maxLen) :
    Calls Try.prog 16 #[.int .i64 n, .slice A m c] W (RpPost n l W) := by
  have hl : l.length = m := by have := hr.1; rwa [tc_length] at this
  unfold maxLen at hmc
  have hb0 : Below W.heap.size W (W.alloc (.cells #[.slice none 0 0, .slice none 0 0] 25)) := (Below.refl _ _).alloc (Nat.le_refl _) _
  have HB := Lib.hid hb0
  have BZ := Lib.hid (Box.new W 25 #[.slice none 0 0, .slice none 0 0])
  have HR := Lib.hid (fun w (h : Below W.heap.size W w) => hr.below h)
  have HS := Lib.hid hs
  have HL := Lib.hid hl
  clear hr hs hl hb0
  go_enter Try.func16, Try.ntmps16
  go_upto_region 1 with (fail)
  generalize W.alloc (.cells #[.slice none 0 0, .slice none 0 0] 25) = w1 at HB BZ ⊢
  obtain ⟨g0, hg0⟩ : ∃ g0, W.heap.size = g0 := ⟨_, rfl⟩
  rw [hg0] at BZ
  simp only [hg0]
  have HG := Lib.hid hg0
  clear hg0
  go_wp2_with fail
  refine (new_any n w1).mono ?_
  rintro e w2 ⟨v2, rfl, hst, hb⟩
  obtain ⟨A1, c1, B1, d1, rfl, _, _⟩ := hst.is
  obtain ⟨o, ho⟩ : ∃ o, o = SM.newF n := ⟨_, rfl⟩
  rw [← ho] at hst ⊢
  have HO := Lib.hid ho
  obtain ⟨base, hbase⟩ : ∃ base, base = w1.heap.size := ⟨_, rfl⟩
  have S0 := Lib.hid (show RqR W g0 w2.heap.size base (.slice A1 o.1.logs.length c1) (.slice B1 o.1.votes.length d1) o.1 (w2.alloc (.cells #[.slice A1 o.1.logs.length c1, .slice B1 o.1.votes.length d1] 25)) from by
    have hb3 := bmore HB.out hb (by have := HB.out.size; have := HG.out; omega)
    have hba : Below w2.heap.size w2 (w2.alloc (.cells #[.slice A1 o.1.logs.length c1, .slice B1 o.1.votes.length d1] 25)) := (Below.refl _ _).alloc (Nat.le_refl _) _
    have bz2 := BZ.out.below hb BZ.out.lt
    have hlt := BZ.out.lt
    exact ⟨bmore hb3 hba (by have := hb3.size; omega), HG.out.symm, by omega, by have := hb.size; omega, bz2.alloc _, Box.new _ _ _, by rw [hbase]; exact hst.below hba⟩)
  clear hst hb HB BZ ho hbase
  obtain ⟨y0, e0⟩ := o
  simp only at S0 ⊢
  go_upto_region 2 with (fail)
  generalize w2.alloc (.cells #[.slice A1 y0.logs.length c1, .slice B1 y0.votes.length d1] 25) = w3 at S0 ⊢
  generalize w2.heap.size = g1 at S0 ⊢
  obtain ⟨z0, z1, f0, f1⟩ := S0.out.bz.two
  by_cases he0 : e0 ≠ 0
  · have HE := Lib.hid (show SM.replayF n (tb l) = (SM.zero, e0) by unfold SM.replayF; rw [← HO.out, if_pos he0])
    have hne : (e0 != 0) = true := by simpa using he0
    go_wp2_with fail
    exact bodyPost_ret (v := .tuple #[.agg #[.slice none 0 0, .slice none 0 0], .int .i64 e0]) (by simp [results, Try.results16, go_sem, z0, z1]; try rfl) rfl (rq_err S0.out.bl S0.out.hg HE.out)
  have he1 : e0 = 0 := Classical.not_not.1 he0
  clear he0
  subst he1
  have H0 := Lib.hid (show (SM.newF n).2 = 0 by rw [← HO.out])
  by_cases hlen : 65536 < m
  · have HE := Lib.hid (show SM.replayF n (tb l) = (SM.zero, 4) by unfold SM.replayF; rw [if_neg (by simpa using H0.out), if_pos (by rw [tb_len, HL.out]; exact hlen)])
    go_wp2_with fail
    exact bodyPost_ret (v := .tuple #[.agg #[.slice none 0 0, .slice none 0 0], .int .i64 4]) (by simp [results, Try.results16, go_sem, z0, z1]; try rfl) rfl (rq_err S0.out.bl S0.out.hg HE.out)
  have HRE := Lib.hid (show SM.replayF n (tb l) = SM.runF y0 (tb l) by rw [replay_eq (y := y0) H0.out (by rw [HL.out]; omega), ← HO.out])
  have HFI := Lib.hid (show SM.may y0 by have := new_may H0.out; rw [← HO.out] at this; exact this)
  clear HO H0
  go_wp2_with fail
  clear z0 z1 f0 f1
  go_loopw [28] (fun i wr => ∃ (k : Nat) (y : Sb) (A2 : Option Addr) (c2 : Nat) (B2 : Option Addr) (d2 : Nat), k ≤ m ∧ i = .int .i64 k ∧ Hid (RqR W g0 g1 base (.slice A2 y.logs.length c2) (.slice B2 y.votes.length d2) y wr) ∧ Hid (SM.may y) ∧ Hid (SM.replayF n (tb l) = SM.runF y (tb (l.drop k)))) (fun i _ => m - (intOf i).toNat)
  case atStart => exact ⟨0, y0, A1, c1, B1, d1, Nat.zero_le _, rfl, S0, HFI, HRE⟩
  case round =>
    clear S0 HFI HRE
    obtain ⟨k, y, A2, c2, B2, d2, hk, rfl, S, HFI, HRE⟩ := hrel
    obtain ⟨z0, z1, f0, f1⟩ := S.out.bz.two
    obtain ⟨s0, s1, _, _⟩ := S.out.bs.two
    by_cases hlt : k < m
    · obtain ⟨t, ht⟩ : ∃ t, l[k]? = some t := ⟨_, List.getElem?_eq_getElem (by have := HL.out; omega)⟩
      obtain ⟨ad, hA, _, q1⟩ := rd_text (HR.out _ S.out.bl) ht
      have hts := HS.out t (List.mem_of_getElem? ht)
      have HD := Lib.hid (run_drop ht y)
      have CR := Lib.hid (fun w => RP.read_any t (RM.readIs_read (RM.bsz t)) hts w)
      have hk0 : (0 : Int) ≤ (k : Int) := by omega
      have hkn : (k : Int) < (m : Int) := by omega
      subst hA
      clear ht hts
      go_wp2_with fail
      clear z0 z1 f0 f1 s0 s1 q1
      refine (CR.out _).mono ?_
      rintro e1 w4 ⟨rfl, hb⟩
      replace S := Lib.hid (S.out.below hb); clear hb CR
      rcases hrd : RM.read (RM.bsz t) with _ | ⟨rk, rg, rs, rb, rv⟩
      · have HE := Lib.hid (show SM.replayF n (tb l) = (SM.zero, 8) by rw [HRE.out, HD.out, hrd])
        have hb : Below w4.heap.size w4 (w4.alloc (.cells #[.int .u8 0, .int .i64 0, .int .i64 0, .int .i64 0, .string .empty] 29)) := (Below.refl _ _).alloc (Nat.le_refl _) _
        replace S := Lib.hid (S.out.below hb)
        clear hb hrd
        simp only [Option.getD_none, Option.isSome_none, RM.zero, Bool.false_eq_true, if_false]
        go_upto_region 10 with (fail)
        generalize w4.alloc (.cells #[.int .u8 0, .int .i64 0, .int .i64 0, .int .i64 0, .string .empty] 29) = w5 at S ⊢
        obtain ⟨z0, z1, f0, f1⟩ := S.out.bz.two
        go_wp2_with fail
        exact bodyPost_ret (v := .tuple #[.agg #[.slice none 0 0, .slice none 0 0], .int .i64 8]) (by simp [results, Try.results16, go_sem, z0, z1]; try rfl) rfl (rq_err S.out.bl S.out.hg HE.out)
      · have hb : Below w4.heap.size w4 (w4.alloc (.cells #[.int .u8 rk, .int .i64 rg, .int .i64 rs, .int .i64 rb, .string rv] 29)) := (Below.refl _ _).alloc (Nat.le_refl _) _
        have RB := Lib.hid (Box.new w4 29 #[.int .u8 rk, .int .i64 rg, .int .i64 rs, .int .i64 rb, .string rv])
        replace S := Lib.hid (S.out.below hb)
        rw [hrd] at HD
        have hrm : RM.may ⟨rk, rg, rs, rb, rv⟩ := by
          have h1 := RM.readIs_read (RM.bsz t)
          rw [hrd] at h1
          rcases h1 with ⟨_, h1, _⟩ | ⟨h1, _⟩
          · exact h1
          · simp at h1
        have HRM := Lib.hid hrm
        clear hb hrd hrm
        simp only [Option.getD_some, Option.isSome_some, if_true]
        go_upto_region 10 with (fail)
        generalize w4.alloc (.cells #[.int .u8 rk, .int .i64 rg, .int .i64 rs, .int .i64 rb, .string rv] 29) = w5 at S RB ⊢
        generalize w4.heap.size = hr at RB ⊢
        obtain ⟨r0, r1, r2, r3, r4⟩ := sn_five RB.out
        have hbw : base ≤ w5.heap.size := by have := S.out.bs.lt; have := S.out.h1; omega
        have CD := Lib.hid (do_any g1 base _ _ y rk rg rs rb rv w5 hbw S.out.bs S.out.ow HFI.out HRM.out)
        go_wp2_with fail
        clear r0 r1 r2 r3 r4
        refine (CD.out).mono ?_
        rintro e1 w6 ⟨rfl, hkp, hok⟩
        clear RB HRM hbw CD
        obtain ⟨q, hq⟩ : ∃ q, q = SM.appF y ⟨rk, rg, rs, rb, rv⟩ := ⟨_, rfl⟩
        have HQ := Lib.hid hq
        rw [← hq] at hok ⊢
        clear hq
        obtain ⟨y2, e2⟩ := q
        simp only at hok ⊢
        by_cases he2 : e2 ≠ 0
        · have HE := Lib.hid (show SM.replayF n (tb l) = (SM.zero, e2) by rw [HRE.out, HD.out, ← HQ.out, if_pos he2])
          have hne : (e2 != 0) = true := by simpa using he2
          have h0 := S.out.h0
          have h1 := S.out.h1
          have hg := S.out.hg
          have BL := Lib.hid (S.out.bl.trans (hkp.toBelow (by omega) (by omega)))
          obtain ⟨z0, z1, f0, f1⟩ := (hkp.box S.out.bz h0 (by omega)).two
          have HG6 := Lib.hid hg
          clear he2 hkp hok h0 h1 hg
          go_wp2_with fail
          exact bodyPost_ret (v := .tuple #[.agg #[.slice none 0 0, .slice none 0 0], .int .i64 e2]) (by simp [results, Try.results16, go_sem, z0, z1]; try rfl) rfl (rq_err BL.out HG6.out HE.out)
        · have he3 : e2 = 0 := Classical.not_not.1 he2
          clear he2
          subst he3
          obtain ⟨uL, uV, hbx, hst⟩ := hok rfl
          obtain ⟨A3, c3, B3, d3, e, _, _⟩ := hst.is
          injection e with e
          injection e with e
          injection e with e1 e
          injection e with e2
          subst e1
          subst e2
          have HE := Lib.hid (show SM.replayF n (tb l) = SM.runF y2 (tb (l.drop (k + 1))) by rw [HRE.out, HD.out, ← HQ.out, if_neg (show ¬ (0 : Int) ≠ 0 by decide)])
          have HF2 := Lib.hid (show SM.may y2 by have h1 := SM.app_done (x := y) (r := ⟨rk, rg, rs, rb, rv⟩) (by rw [← HQ.out]); rw [← HQ.out] at h1; exact SM.done_may h1)
          have NX := Lib.hid (S.out.did hkp hbx hst)
          clear hkp hok hbx hst
          go_wp2_with fail
          go_roundw
          case rel => exact ⟨k + 1, y2, A3, c3, B3, d3, by omega, by go_num, NX, HF2, HE⟩
          case measure => simp [intOf]; omega
    · have HE := Lib.hid (show SM.replayF n (tb l) = (y, 0) by rw [HRE.out, List.drop_of_length_le (by have := HL.out; omega)]; rfl)
      go_wp2_with fail
      exact bodyPost_ret (v := .tuple #[.agg #[.slice A2 y.logs.length c2, .slice B2 y.votes.length d2], .int .i64 0]) (by simp [results, Try.results16, go_sem, z0, z1]; try rfl) rfl (rq_fin S.out HE.out)
end Go.Proofs.Ytohiemdodffhoaa.SP

namespace Go.Proofs.Ytohiemdodffhoaa.SP
open Go.RowKit
open SM (Sn Sb Vo)
open RM (Rc)
set_option linter.unusedVariables false
set_option linter.unusedSimpArgs false
set_option maxRecDepth 100000

set_option maxHeartbeats 8000000 in
theorem recordsof_any (x : Sn) (w : World) :
    Calls Try.prog 62 #[vsn x] w fun e w' => ∃ u, e = .returned u ∧ w'.ownsRow w.heap.size 29 5 u (SM.snRecs x).length (flat rcell (SM.snRecs x)) ∧ Below w.heap.size w w' := by
  obtain ⟨i0, hi, hz0, hz1, hz2⟩ := info_parts info_rec
  obtain ⟨g, s, ⟨p, b, t⟩⟩ := x
  unfold vsn
  simp only
  have hb0 : Below w.heap.size w (w.alloc (.cells #[.int .i64 g, .int .i64 s, .int .i64 p, .int .i64 b, .string t] 75)) := (Below.refl _ _).alloc (Nat.le_refl _) _
  have HB := Lib.hid hb0
  have X := Lib.hid (Box.new w 75 #[.int .i64 g, .int .i64 s, .int .i64 p, .int .i64 b, .string t])
  have HS := Lib.hid (show w.heap.size + 1 = (w.alloc (.cells #[.int .i64 g, .int .i64 s, .int .i64 p, .int .i64 b, .string t] 75)).heap.size by simp)
  obtain ⟨PV, hPV⟩ : ∃ PV, PV = SM.snRecs ⟨g, s, ⟨p, b, t⟩⟩ := ⟨_, rfl⟩
  rw [← hPV]
  unfold SM.snRecs at hPV
  simp only at hPV
  have HPV := Lib.hid hPV
  clear hb0 hPV
  go_enter Try.func62, Try.ntmps62
  go_upto_region 1 with (fail)
  generalize w.alloc (.cells #[.int .i64 g, .int .i64 s, .int .i64 p, .int .i64 b, .string t] 75) = w1 at HB X HS ⊢
  obtain ⟨g0, hg0⟩ : ∃ g0, w.heap.size = g0 := ⟨_, rfl⟩
  rw [hg0] at X HS
  simp only [hg0]
  have HG := Lib.hid hg0
  clear hg0
  obtain ⟨x0, x1, x2, x3, x4⟩ := sn_five X.out
  by_cases hb : 0 < b
  · have tb : decide (0 < b) = true := by simpa using hb
    have own0 : w1.ownsRow w1.heap.size 29 5 (.slice none 0 0) 0 [] := World.ownsRow_nil _ _ _ _
    go_upto_region 4 with (at_builtin; refine wpList_append_g _ rfl _ _ 67 rfl w1.heap.size 29 i0 _ 5 48 Try.underlying67 hi hz0 hz1 hz2 rfl (by omega) (.slice none 0 0) 0 [] rfl (World.ownsRow_nil _ _ _ _) (some ⟨w1.heap.size, 0, none⟩) 1 1 (rcell (⟨2, g, s, b, t⟩ : Rc)) rfl (rdG_box (Box.new _ 29 #[.int .u8 2, .int .i64 g, .int .i64 s, .int .i64 b, .string t]) rfl rfl) (rc_one _) (by unfold maxLen; omega) (by omega) (by simp) ?_; intro v2 w2 hown2 hg2 hob2)
    have hbel : Below w1.heap.size w1 w2 := ((Below.refl _ _).alloc (Nat.le_refl _) _).trans ((below_of_grown hg2 (by intro q h; cases h)).mono (by simp))
    simp only [Nat.zero_add, List.nil_append] at hown2
    have HB2 := Lib.hid (show Below w.heap.size w w2 from HB.out.trans (hbel.mono HB.out.size))
    have X2 := Lib.hid (X.out.below hbel X.out.lt)
    have HO2 := Lib.hid hown2
    have HZ2 := Lib.hid hbel.size
    obtain ⟨A2, c2, rfl, _, _⟩ := own_form hown2
    clear x0 x1 x2 x3 x4 hbel hown2 hg2 hob2 own0
    obtain ⟨x0, x1, x2, x3, x4⟩ := sn_five X2.out
    by_cases hp : b < p
    · have tp : decide (b < p) = true := by simpa using hp
      have HN := Lib.hid (show PV = [⟨2, g, s, b, t⟩] ++ [⟨1, g, s, p, .empty⟩] by rw [HPV.out, if_pos hb, if_pos hp])
      clear hb hp
      go_wp2_with (at_builtin; refine wpList_append_g _ rfl _ _ 67 rfl w1.heap.size 29 i0 _ 5 48 Try.underlying67 hi hz0 hz1 hz2 rfl (by omega) (.slice A2 1 c2) 1 _ rfl (own_below3 HO2.out ((Below.refl _ _).alloc (Nat.le_refl _) _)) (some ⟨w2.heap.size, 0, none⟩) 1 1 (rcell (⟨1, g, s, p, .empty⟩ : Rc)) rfl (rdG_box (Box.new _ 29 #[.int .u8 1, .int .i64 g, .int .i64 s, .int .i64 p, .string ⟨#[]⟩]) rfl rfl) (rc_one _) (by unfold maxLen; omega) (by omega) (by have := HZ2.out; simp; omega) ?_; intro v3 w3 hown3 hg3 hob3)
      have hbel := below_row ((Below.refl w1.heap.size w2).alloc HZ2.out (.cells #[.int .u8 1, .int .i64 g, .int .i64 s, .int .i64 p, .string ⟨#[]⟩] 29)) (own_below3 HO2.out ((Below.refl _ _).alloc (Nat.le_refl _) _)) (by have := HZ2.out; simp; omega) hg3
      go_ret
      exact ⟨_, rfl, by rw [HN.out]; exact own_base hown3 (by have := HS.out; have := HG.out; omega), HB2.out.trans (hbel.mono HB.out.size)⟩
    · have tp : decide (b < p) = false := by simpa using hp
      have HN := Lib.hid (show PV = [⟨2, g, s, b, t⟩] by rw [HPV.out, if_pos hb, if_neg hp, List.append_nil])
      clear hb hp
      go_wp2_with fail
      go_ret
      exact ⟨_, rfl, by rw [HN.out]; simpa [flat_one] using own_base HO2.out (show w.heap.size ≤ w1.heap.size by have := HS.out; have := HG.out; omega), HB2.out⟩
  · have tb : decide (0 < b) = false := by simpa using hb
    by_cases hp : b < p
    · have tp : decide (b < p) = true := by simpa using hp
      have HN := Lib.hid (show PV = [⟨1, g, s, p, .empty⟩] by rw [HPV.out, if_neg hb, if_pos hp, List.nil_append])
      clear hb hp
      go_wp2_with (at_builtin; refine wpList_append_g _ rfl _ _ 67 rfl w1.heap.size 29 i0 _ 5 48 Try.underlying67 hi hz0 hz1 hz2 rfl (by omega) (.slice none 0 0) 0 [] rfl (World.ownsRow_nil _ _ _ _) (some ⟨w1.heap.size, 0, none⟩) 1 1 (rcell (⟨1, g, s, p, .empty⟩ : Rc)) rfl (rdG_box (Box.new _ 29 #[.int .u8 1, .int .i64 g, .int .i64 s, .int .i64 p, .string ⟨#[]⟩]) rfl rfl) (rc_one _) (by unfold maxLen; omega) (by omega) (by simp) ?_; intro v3 w3 hown3 hg3 hob3)
      have hbel : Below w1.heap.size w1 w3 := ((Below.refl _ _).alloc (Nat.le_refl _) _).trans ((below_of_grown hg3 (by intro q h; cases h)).mono (by simp))
      simp only [Nat.zero_add, List.nil_append] at hown3
      go_ret
      exact ⟨_, rfl, by rw [HN.out]; simpa [flat_one] using own_base hown3 (show w.heap.size ≤ w1.heap.size by have := HS.out; have := HG.out; omega), HB.out.trans (hbel.mono HB.out.size)⟩
    · have tp : decide (b < p) = false := by simpa using hp
      have HN := Lib.hid (show PV = [] by rw [HPV.out, if_neg hb, if_neg hp, List.append_nil])
      clear hb hp
      go_wp2_with fail
      go_ret
      exact ⟨_, rfl, by rw [HN.out]; exact World.ownsRow_nil _ _ _ _, HB.out⟩
end Go.Proofs.Ytohiemdodffhoaa.SP

namespace Go.Proofs.Ytohiemdodffhoaa.SP
open Go.RowKit
open SM (Sn Sb Vo)
open RM (Rc)
set_option linter.unusedVariables false
set_option linter.unusedSimpArgs false
set_option maxRecDepth 100000

set_option maxHeartbeats 16000000 in
theorem shortest_any (v : Value) (x : Sb) (W : World) (H : StIs W v x) (hm : SM.may x) :
    Calls Try.prog 35 #[v] W fun e w' => ∃ u, e = .returned u ∧ w'.ownsRow W.heap.size 29 5 u (SM.recs x).length (flat rcell (SM.recs x)) ∧ Below W.heap.size W w' := by
  obtain ⟨A, c, B, d, rfl, hL, hV⟩ := H
  obtain ⟨i0, hi, hz0, hz1, hz2⟩ := info_parts info_rec
  obtain ⟨m0, m1, m2⟩ := rows_rd2 hL
  have hvl := SM.votes_le hm
  have h4 := hm.1.2
  have HLO := Lib.hid hm.2.1
  obtain ⟨ls, vs⟩ := x
  simp only at hL hV m1 hvl h4 HLO
  obtain ⟨hR, _, hmd, hdm, hFl⟩ := hV
  unfold maxLen at m2 hdm
  have hb0 : Below W.heap.size W (W.alloc (.cells #[.slice A ls.length c, .slice B vs.length d] 25)) := (Below.refl _ _).alloc (Nat.le_refl _) _
  have HB := Lib.hid hb0
  have Y := Lib.hid (Box.new W 25 #[.slice A ls.length c, .slice B vs.length d])
  have HL := Lib.hid (hL.below hb0)
  have HR := Lib.hid (hR.below hb0)
  have HF := Lib.hid hFl
  have HBS := Lib.hid (show (W.alloc (.cells #[.slice A ls.length c, .slice B vs.length d] 25)).heap.size = W.heap.size + 1 by simp)
  obtain ⟨base, hbase⟩ : ∃ base, W.heap.size + 1 = base := ⟨_, rfl⟩
  rw [hbase] at HBS
  obtain ⟨PV, hPV⟩ : ∃ PV, PV = SM.recs ⟨ls, vs⟩ := ⟨_, rfl⟩
  rw [← hPV]
  have HPV := Lib.hid (show PV = SM.logsRecs 0 ls ++ vs.flatMap SM.snRecs from hPV)
  clear hL hR hFl hb0 m0 hPV hm
  go_enter Try.func35, Try.ntmps35
  go_upto_region 1 with (fail)
  generalize W.alloc (.cells #[.slice A ls.length c, .slice B vs.length d] 25) = w1 at HB Y HL HR HBS ⊢
  obtain ⟨g0, hg0⟩ : ∃ g0, W.heap.size = g0 := ⟨_, rfl⟩
  rw [hg0] at Y
  simp only [hg0]
  have hgb : g0 < base := by omega
  have HG := Lib.hid hg0
  clear hg0
  obtain ⟨x0, x1, _, _⟩ := Y.out.two
  go_wp2_with fail
  clear x0 x1
  go_loopw [3, 13] (fun u i wr => ∃ (k : Nat) (u0 : Value), k ≤ ls.length ∧ i = .int .i64 k ∧ u0 = u ∧ wr.ownsRow base 29 5 u (SM.logsRecs 0 (ls.take k)).length (flat rcell (SM.logsRecs 0 (ls.take k))) ∧ Hid (Below base w1 wr)) (fun _ i _ => ls.length - (intOf i).toNat)
  case atStart => exact ⟨0, _, Nat.zero_le _, rfl, rfl, World.ownsRow_nil _ _ _ _, Lib.hid (Below.refl _ _)⟩
  case round =>
    obtain ⟨k, u, hk, rfl, rfl, hown, HW⟩ := hrel
    have hbz : base ≤ wr.heap.size := by have := HW.out.size; have := HBS.out; omega
    by_cases hlt : k < ls.length
    · obtain ⟨l, hl⟩ : ∃ l, ls[k]? = some l := ⟨_, List.getElem?_eq_getElem hlt⟩
      have hl200 := (HLO.out l (List.mem_of_getElem? hl)).1
      have HLL := Lib.hid hl
      have HBND := Lib.hid (many_take ls k HLO.out h4)
      have HOW := Lib.hid hown
      obtain ⟨ad, C, e, hA, _, q1, q2, q3, q4⟩ := logs_get HL.out hl
      subst hA
      have hqb := cell_block q1
      have c1 : wr.cell? (ad.add k) = some (.slice C l.length e) := (HW.out.cell (by rw [← HBS.out]; exact hqb)).trans q1
      have HQ := Lib.hid (fun (w : World) (h : Below base w1 w) => q2.below (by rw [HBS.out]; exact h))
      unfold maxLen at q4
      have hk0 : (0 : Int) ≤ (k : Int) := by omega
      have hkn : (k : Int) < (ls.length : Int) := by omega
      clear hl hown q1 q2 hqb
      go_wp2_with fail
      clear c1
      go_loopw [3, 20] (fun u i wr => ∃ (j : Nat) (u0 : Value), j ≤ l.length ∧ i = .int .i64 j ∧ u0 = u ∧ wr.ownsRow base 29 5 u (SM.logsRecs 0 (ls.take k) ++ SM.logRecs k 0 (l.take j)).length (flat rcell (SM.logsRecs 0 (ls.take k) ++ SM.logRecs k 0 (l.take j))) ∧ Hid (Below base w1 wr)) (fun _ i _ => l.length - (intOf i).toNat)
      case atStart => exact ⟨0, _, Nat.zero_le _, rfl, rfl, by have := HOW.out; simpa [SM.logRecs] using this, HW⟩
      case round =>
        clear HW HOW hbz
        obtain ⟨j, u, hj, rfl, rfl, hown, HW⟩ := hrel
        have hbz : base ≤ wr.heap.size := by have := HW.out.size; have := HBS.out; omega
        have q2 := HQ.out _ HW.out
        have HOW := Lib.hid hown
        clear hown
        by_cases hlt2 : j < l.length
        · obtain ⟨t, ht⟩ : ∃ t, l[j]? = some t := ⟨_, List.getElem?_eq_getElem hlt2⟩
          obtain ⟨ad2, hA2, _, q5⟩ := rd_text q2 ht
          subst hA2
          have HB2 := Lib.hid (show (SM.logsRecs 0 (ls.take k) ++ SM.logRecs k 0 (l.take j)).length ≤ 1000 by rw [List.length_append, SM.logRecs_len, List.length_take]; have := HBND.out; omega)
          have HN := Lib.hid (show SM.logsRecs 0 (ls.take k) ++ SM.logRecs k 0 (l.take (j + 1)) = (SM.logsRecs 0 (ls.take k) ++ SM.logRecs k 0 (l.take j)) ++ [⟨3, k, (j : Int) + 1, 0, t⟩] by
            rw [take_snoc ht, logRecs_snoc, take_len ht, Nat.zero_add, List.append_assoc])
          have hj0 : (0 : Int) ≤ (j : Int) := by omega
          have hjn : (j : Int) < (l.length : Int) := by omega
          clear q2 ht
          go_wp2_with (at_builtin; refine wpList_append_g _ rfl _ _ 67 rfl base 29 i0 _ 5 48 Try.underlying67 hi hz0 hz1 hz2 rfl (by omega) u _ _ rfl (own_below3 HOW.out ((Below.refl _ _).alloc (Nat.le_refl _) _)) (some ⟨wr.heap.size, 0, none⟩) 1 1 (rcell ⟨3, k, (j : Int) + 1, 0, t⟩) rfl (rdG_box (Box.new _ 29 #[.int .u8 3, .int .i64 k, .int .i64 ((j : Int) + 1), .int .i64 0, .string t]) rfl rfl) (rc_one _) (by unfold maxLen; have := HB2.out; omega) (by have := HB2.out; omega) (by simp; omega) ?_; intro v2 w2 hown2 hg2 hob2)
          have hbel := below_row (HW.out.alloc hbz (.cells #[.int .u8 3, .int .i64 k, .int .i64 ((j : Int) + 1), .int .i64 0, .string t] 29)) (own_below3 HOW.out ((Below.refl _ _).alloc (Nat.le_refl _) _)) (by simp; omega) hg2
          go_roundw
          case rel => exact ⟨j + 1, _, by omega, by go_num, rfl, by rw [HN.out, List.length_append, flat_append, flat_one]; exact hown2, Lib.hid hbel⟩
          case measure => simp [intOf]; omega
        · have hjl : j = l.length := by omega
          have HN := Lib.hid (show SM.logsRecs 0 (ls.take (k + 1)) = SM.logsRecs 0 (ls.take k) ++ SM.logRecs k 0 (l.take j) by
            rw [take_snoc HLL.out, logsRecs_snoc, take_len HLL.out, Nat.zero_add, List.take_of_length_le (l := l) (i := j) (by omega)])
          clear q2 hjl
          go_wp2_with fail
          go_roundw
          case rel => exact ⟨k + 1, _, by omega, by go_num, rfl, by rw [HN.out]; exact HOW.out, HW⟩
          case measure => simp [intOf]; omega
    · have hkl : ls.length = k := by omega
      subst hkl
      rw [List.take_length] at hown
      have HPB := Lib.hid (many_take ls ls.length HLO.out h4)
      rw [List.take_length] at HPB
      generalize SM.logsRecs 0 ls = PL at HPV HPB hown
      have HOW := Lib.hid hown
      clear hown
      obtain ⟨x0, x1, _, _⟩ := (Y.out.below HW.out hgb).two
      go_wp2_with fail
      clear x0 x1
      go_loopw [3, 38] (fun u i wr => ∃ (k : Nat) (u0 : Value), k ≤ vs.length ∧ i = .int .i64 k ∧ u0 = u ∧ wr.ownsRow base 29 5 u (PL ++ (vs.take k).flatMap SM.snRecs).length (flat rcell (PL ++ (vs.take k).flatMap SM.snRecs)) ∧ Hid (Below base w1 wr)) (fun _ i _ => vs.length - (intOf i).toNat)
      case atStart => exact ⟨0, _, Nat.zero_le _, rfl, rfl, by have := HOW.out; simpa using this, HW⟩
      case round =>
        clear HW HOW hbz
        obtain ⟨k, u, hk, rfl, rfl, hown, HW⟩ := hrel
        have hbz : base ≤ wr.heap.size := by have := HW.out.size; have := HBS.out; omega
        have HBND := Lib.hid (votes_take vs k hvl)
        have HOW := Lib.hid hown
        clear hown
        by_cases hlt : k < vs.length
        · obtain ⟨bl, oo, rfl⟩ := HF.out (by omega)
          obtain ⟨v, hv⟩ : ∃ v, vs[k]? = some v := ⟨_, List.getElem?_eq_getElem hlt⟩
          obtain ⟨a0, a1, a2, a3, a4⟩ := rdg_sn (HR.out.below (by rw [HBS.out]; exact HW.out)) hv
          have HN := Lib.hid (show PL ++ (vs.take (k + 1)).flatMap SM.snRecs = (PL ++ (vs.take k).flatMap SM.snRecs) ++ SM.snRecs v by rw [take_snoc hv, List.flatMap_append, List.flatMap_singleton, List.append_assoc])
          have CR := Lib.hid (fun (w : World) => recordsof_any v w)
          have hsl := snRecs_le v
          obtain ⟨Z, hZ⟩ : ∃ Z, Z = SM.snRecs v := ⟨_, rfl⟩
          rw [← hZ] at HN CR hsl
          obtain ⟨Q, hQ⟩ : ∃ Q, Q = PL ++ (vs.take k).flatMap SM.snRecs := ⟨_, rfl⟩
          have HQB := Lib.hid (show Q.length ≤ 2500 by rw [hQ, List.length_append]; have := HBND.out; have := HPB.out; omega)
          rw [← hQ] at HN HOW
          clear hQ hZ hv HBND
          obtain ⟨g, s, p, b, t⟩ := v
          unfold vsn at CR
          simp only at a0 a1 a2 a3 a4 CR
          have hk0 : (0 : Int) ≤ (k : Int) := by omega
          have hkn : (k : Int) < (vs.length : Int) := by omega
          go_upto_region 14 with (fail)
          clear a0 a1 a2 a3 a4
          have ZB := Lib.hid (Box.new wr 75 #[.int .i64 g, .int .i64 s, .int .i64 p, .int .i64 b, .string t])
          have hba : Below wr.heap.size wr (wr.alloc (.cells #[.int .i64 g, .int .i64 s, .int .i64 p, .int .i64 b, .string t] 75)) := (Below.refl _ _).alloc (Nat.le_refl _) _
          replace HOW := Lib.hid (own_below3 HOW.out hba)
          replace HW := Lib.hid (HW.out.alloc hbz (.cells #[.int .i64 g, .int .i64 s, .int .i64 p, .int .i64 b, .string t] 75))
          have hbz3 : base ≤ (wr.alloc (.cells #[.int .i64 g, .int .i64 s, .int .i64 p, .int .i64 b, .string t] 75)).heap.size := by simp; omega
          clear hba
          generalize wr.alloc (.cells #[.int .i64 g, .int .i64 s, .int .i64 p, .int .i64 b, .string t] 75) = w3 at ZB HOW HW hbz3 ⊢
          generalize wr.heap.size = h at ZB ⊢
          obtain ⟨c0, c1, c2, c3, c4⟩ := sn_five ZB.out
          go_wp2_with fail
          refine (CR.out _).mono ?_
          rintro e4 w4 ⟨v4, rfl, hown4, hb4⟩
          obtain ⟨F, f, rfl, _, _⟩ := own_form hown4
          have HR4 := Lib.hid (rd_of_own3 hown4)
          have HW4 := Lib.hid (HW.out.trans (hb4.mono hbz3))
          have HOW4 := Lib.hid (own_below3 HOW.out hb4)
          have hbz4 : base ≤ w4.heap.size := Nat.le_trans hbz3 hb4.size
          clear c0 c1 c2 c3 c4 hown4 hb4 CR
          go_wp2_with (at_builtin; refine wpList_append_g _ rfl _ _ 67 rfl base 29 i0 _ 5 48 Try.underlying67 hi hz0 hz1 hz2 rfl (by omega) u _ _ rfl HOW4.out F Z.length f (flat rcell Z) rfl HR4.out (one_flat rc_one _) (by unfold maxLen; have := HQB.out; omega) (by have := HQB.out; omega) hbz4 ?_; intro v2 w2 hown2 hg2 hob2)
          have hbel := below_row HW4.out HOW4.out hbz4 hg2
          go_roundw
          case rel => exact ⟨k + 1, _, by omega, by go_num, rfl, by rw [HN.out, List.length_append, flat_append]; exact hown2, Lib.hid hbel⟩
          case measure => simp [intOf]; omega
        · have hkl : vs.length = k := by omega
          subst hkl
          have hend := HOW.out
          rw [List.take_length, ← HPV.out] at hend
          clear HOW
          go_wp2_with fail
          go_ret
          exact ⟨_, rfl, own_base hend (by have := HG.out; omega), HB.out.trans (HW.out.mono (by have := HG.out; omega))⟩
set_option maxHeartbeats 8000000 in
theorem image_any (v : Value) (x : Sb) (W : World) (H : StIs W v x) (F : Fit x) :
    Calls Try.prog 12 #[v] W (ImgIs x W) := by
  obtain ⟨A, c, B, d, rfl, hL, hV⟩ := H
  obtain ⟨i0, hi, hz0, hz1, hz2⟩ := info_parts info_tx
  have hb0 : Below W.heap.size W (W.alloc (.cells #[.slice A x.logs.length c, .slice B x.votes.length d] 25)) := (Below.refl _ _).alloc (Nat.le_refl _) _
  have HB := Lib.hid hb0
  have Y := Lib.hid (Box.new W 25 #[.slice A x.logs.length c, .slice B x.votes.length d])
  have HI := Lib.hid (fun w (h : Below W.heap.size W w) => (show StIs w (.agg #[.slice A x.logs.length c, .slice B x.votes.length d]) x from ⟨A, c, B, d, rfl, hL.below h, hV.below h⟩))
  have CM := Lib.hid (fun w (h : Below W.heap.size W w) => check_any (.agg #[.slice A x.logs.length c, .slice B x.votes.length d]) x w ⟨A, c, B, d, rfl, hL.below h, hV.below h⟩ F)
  clear hL hV hb0 F
  go_enter Try.func12, Try.ntmps12
  go_upto_region 1 with (fail)
  generalize W.alloc (.cells #[.slice A x.logs.length c, .slice B x.votes.length d] 25) = w1 at HB Y ⊢
  obtain ⟨g0, hg0⟩ : ∃ g0, W.heap.size = g0 := ⟨_, rfl⟩
  rw [hg0] at Y
  simp only [hg0]
  have HG := Lib.hid hg0
  clear hg0
  obtain ⟨x0, x1, _, _⟩ := Y.out.two
  go_wp2_with fail
  refine (CM.out w1 HB.out).mono ?_
  rintro e w2 ⟨rfl, hb⟩
  replace HB := Lib.hid (HB.out.trans (hb.mono HB.out.size))
  replace Y := Lib.hid (Y.out.below hb Y.out.lt)
  clear hb CM x0 x1
  by_cases hm : SM.may x
  · rw [if_pos hm]
    have HM := Lib.hid hm
    have HE := Lib.hid (show imgOf x = img (SM.recs x) from if_pos hm)
    have HR := Lib.hid (SM.rec_all hm)
    have hnl := SM.image_len hm
    have hml := SM.many_le x.logs hm.2.1
    have h44 := hm.1.2
    have hvl := SM.votes_le hm
    have hn : (SM.recs x).length ≤ 3000 := by unfold SM.image at hnl; rw [List.length_map] at hnl; omega
    have CR := Lib.hid (fun w (h : Below W.heap.size W w) => shortest_any (.agg #[.slice A x.logs.length c, .slice B x.votes.length d]) x w (HI.out w h) hm)
    clear hm hnl hml
    obtain ⟨x0, x1, _, _⟩ := Y.out.two
    go_wp2_with fail
    refine (CR.out w2 HB.out).mono ?_
    rintro e w3 ⟨v3, rfl, oR, hb⟩
    have hsz := HB.out.size
    replace HB := Lib.hid (HB.out.trans (hb.mono HB.out.size))
    clear hb CR x0 x1 Y HI
    obtain ⟨R, c3, rfl, hc3, hc4⟩ := own_form oR
    unfold maxLen at hc4
    obtain ⟨P, hP⟩ : ∃ P, P = SM.recs x := ⟨_, rfl⟩
    rw [← hP] at HE HR hn oR hc3 ⊢
    clear hP
    have OR := Lib.hid oR
    clear oR
    go_wp2_with fail
    go_loopw [5, 18] (fun u i wr => ∃ (k : Nat) (u0 : Value), k ≤ P.length ∧ i = .int .i64 k ∧ u0 = u ∧ wr.ownsRow w3.heap.size 9 1 u (img (P.take k)).length (tc (img (P.take k))) ∧ Hid (Below w3.heap.size w3 wr)) (fun _ i _ => P.length - (intOf i).toNat)
    case atStart => exact ⟨0, _, Nat.zero_le _, rfl, rfl, World.ownsRow_nil _ _ _ _, Lib.hid (Below.refl _ _)⟩
    case round =>
      obtain ⟨k, u, hk, rfl, rfl, hown, HW⟩ := hrel
      have hbz := HW.out.size
      have HOW := Lib.hid hown
      clear hown
      by_cases hlt : k < P.length
      · obtain ⟨r, hr⟩ : ∃ r, P[k]? = some r := ⟨_, List.getElem?_eq_getElem hlt⟩
        obtain ⟨q, hq, _, _⟩ := own_some OR.out (show 0 < P.length by omega)
        subst hq
        obtain ⟨a0, a1, a2, a3, a4⟩ := rc_cells ((rd_of_own3 OR.out).below HW.out) hr
        have hrm := HR.out r (List.mem_of_getElem? hr)
        have hbb := RM.may_b hrm
        have htt := RM.may_v hrm
        have CT := Lib.hid (fun w => RP.write_any (t := ⟨(RM.wr r).toArray⟩) (e := 0) r.k r.g r.s r.b r.v (.inl ⟨hrm, rfl, rfl⟩) (by omega) (by omega) (by unfold maxLen; omega) w)
        have HN := Lib.hid (show img (P.take (k + 1)) = img (P.take k) ++ [⟨(RM.wr r).toArray⟩] by unfold img; rw [take_snoc hr, List.map_append]; rfl)
        have HK := Lib.hid (show (img (P.take k)).length ≤ 3000 by unfold img; rw [List.length_map, List.length_take]; omega)
        obtain ⟨s, hs⟩ : ∃ s : ByteArray, s = ⟨(RM.wr r).toArray⟩ := ⟨_, rfl⟩
        rw [← hs] at CT HN
        clear hs hr hrm hbb htt
        have hk0 : (0 : Int) ≤ (k : Int) := by omega
        have hkn : (k : Int) < (P.length : Int) := by omega
        obtain ⟨rk, rg, rs, rb, rv⟩ := r
        simp only at a0 a1 a2 a3 a4 CT
        go_upto_region 8 with (fail)
        clear a0 a1 a2 a3 a4
        have ZB := Lib.hid (Box.new wr 29 #[.int .u8 rk, .int .i64 rg, .int .i64 rs, .int .i64 rb, .string rv])
        have hba : Below wr.heap.size wr (wr.alloc (.cells #[.int .u8 rk, .int .i64 rg, .int .i64 rs, .int .i64 rb, .string rv] 29)) := (Below.refl _ _).alloc (Nat.le_refl _) _
        replace HOW := Lib.hid (own_below3 HOW.out hba)
        replace HW := Lib.hid (HW.out.trans (hba.mono hbz))
        have hbz3 := HW.out.size
        clear hba
        generalize wr.alloc (.cells #[.int .u8 rk, .int .i64 rg, .int .i64 rs, .int .i64 rb, .string rv] 29) = w4 at ZB HOW HW hbz3 ⊢
        generalize wr.heap.size = h at ZB ⊢
        obtain ⟨c0, c1, c2, c3', c4⟩ := sn_five ZB.out
        go_wp2_with fail
        refine (CT.out _).mono ?_
        rintro e w5 ⟨rfl, hb⟩
        replace HW := Lib.hid (HW.out.trans (hb.mono hbz3))
        replace HOW := Lib.hid (own_below3 HOW.out hb)
        have hbz2 := HW.out.size
        clear hb CT c0 c1 c2 c3' c4
        go_wp2_with (at_builtin; refine wpList_append_g _ rfl _ _ 32 rfl w3.heap.size 9 i0 _ 1 16 Try.underlying32 hi hz0 hz1 hz2 rfl (by omega) u _ _ rfl (own_below3 HOW.out ((Below.refl _ _).alloc (Nat.le_refl _) _)) (some ⟨w5.heap.size, 0, none⟩) 1 1 [.string s] rfl (rdG_box (Box.new _ 9 #[.string s]) rfl rfl) (by intro z hz; simp at hz; subst hz; rfl) (by unfold maxLen; have := HK.out; omega) (by have := HK.out; omega) (by simp; omega) ?_; intro v2 w6 hown2 hg2 hob2)
        have hbel := below_row (HW.out.alloc hbz2 (.cells #[.string s] 9)) (own_below3 HOW.out ((Below.refl _ _).alloc (Nat.le_refl _) _)) (by simp; omega) hg2
        go_roundw
        case rel => exact ⟨k + 1, _, by omega, by go_num, rfl, by rw [HN.out, List.length_append, tc_append]; exact hown2, Lib.hid hbel⟩
        case measure => simp [intOf]; omega
      · have hkl : P.length = k := by omega
        have hend := HOW.out
        rw [List.take_of_length_le (by omega), ← HE.out] at hend
        clear HOW
        subst hkl
        obtain ⟨A9, c9, rfl, h91, h92⟩ := own_form hend
        have HEND := Lib.hid hend
        have H91 := Lib.hid (And.intro h91 h92)
        clear hend h91 h92
        go_wp2_with fail
        go_ret2
        exact ⟨A9, c9, by rw [if_pos HM.out]; rfl, Rd.of_own HEND.out, H91.out.1, H91.out.2, HB.out.trans (HW.out.mono HB.out.size)⟩
  · rw [if_neg hm]
    have HM := Lib.hid hm
    have HE := Lib.hid (show imgOf x = [] from if_neg hm)
    clear hm
    go_wp2_with fail
    go_ret2
    exact ⟨none, 0, by rw [if_neg HM.out, HE.out]; rfl, by rw [HE.out]; exact Rd.of_own (World.ownsRow_nil _ 0 9 1), by rw [HE.out]; exact Nat.le_refl _, Nat.zero_le _, HB.out⟩
end Go.Proofs.Ytohiemdodffhoaa.SP

namespace Go.Proofs.Ytohiemdodffhoaa.SP
open Go.RowKit
open SM (Sn Sb Vo)
set_option linter.unusedVariables false
set_option linter.unusedSimpArgs false
set_option maxRecDepth 100000

set_option maxHeartbeats 4000000 in
theorem at_any (v : Value) (x : Sb) (g s : Int) (W : World) (H : StIs W v x) (F : Fit x) :
    Calls Try.prog 22 #[v, .int .i64 g, .int .i64 s] W fun e w' =>
      e = .returned (.tuple #[.agg #[.int .i64 (SM.atF x g s).1.p, .int .i64 (SM.atF x g s).1.b, .string (SM.atF x g s).1.v], .int .i64 (SM.atF x g s).2]) ∧ Below W.heap.size W w' := by
  obtain ⟨A, c, B, d, rfl, hL, hV⟩ := H
  obtain ⟨m0, m1, m2⟩ := rows_rd2 hL
  have hb0 : Below W.heap.size W ((W.alloc (.cells #[.slice A x.logs.length c, .slice B x.votes.length d] 25)).alloc (.cells #[.int .i64 0, .int .i64 0, .string ⟨#[]⟩] 48)) := ((Below.refl _ _).alloc (Nat.le_refl _) _).alloc (by simp) _
  have HB := Lib.hid hb0
  have X := Lib.hid ((Box.new W 25 #[.slice A x.logs.length c, .slice B x.votes.length d]).alloc (.cells #[.int .i64 0, .int .i64 0, .string ⟨#[]⟩] 48))
  have Y := Lib.hid (Box.new_at (w := W.alloc (.cells #[.slice A x.logs.length c, .slice B x.votes.length d] 25)) (t := 48) (cs := #[.int .i64 0, .int .i64 0, .string ⟨#[]⟩]) (W.heap.size + 1) (by simp))
  have HV := Lib.hid (hV.below hb0)
  have CM := Lib.hid (check_any (.agg #[.slice A x.logs.length c, .slice B x.votes.length d]) x _ (show StIs _ _ x from ⟨A, c, B, d, rfl, hL.below hb0, hV.below hb0⟩) F)
  have CG := Lib.hid (fun (w : World) => isgroup_any A B x.logs.length c x.votes.length d g w (Nat.le_trans m1 m2))
  have CV := Lib.hid (fun (hm : SM.may x) w (h : VotesIs w B x.votes.length d x.votes) => voteat_any B x.votes.length d x.votes g s w h (SM.may_rises hm) (Nat.le_trans (SM.votes_le hm) (by decide)))
  unfold maxLen at m2
  obtain ⟨o, ho⟩ : ∃ o, o = SM.atF x g s := ⟨_, rfl⟩
  rw [← ho]
  unfold SM.atF at ho
  have HO := Lib.hid ho
  clear hL hV hb0 m0 ho
  go_enter Try.func22, Try.ntmps22
  go_upto_region 1 with (fail)
  generalize (W.alloc (.cells #[.slice A x.logs.length c, .slice B x.votes.length d] 25)).alloc (.cells #[.int .i64 0, .int .i64 0, .string ⟨#[]⟩] 48) = w1 at HB X Y HV CM ⊢
  obtain ⟨g0, hg0⟩ : ∃ g0, W.heap.size = g0 := ⟨_, rfl⟩
  rw [hg0] at X Y
  simp only [hg0]
  have HG := Lib.hid hg0
  clear hg0
  obtain ⟨x0, x1, _, _⟩ := X.out.two
  go_wp2_with fail
  refine (CM.out).mono ?_
  rintro e w2 ⟨rfl, hb⟩
  have HB2 := Lib.hid (HB.out.trans (hb.mono HB.out.size))
  replace X := Lib.hid (X.out.below hb X.out.lt)
  replace Y := Lib.hid (Y.out.below hb Y.out.lt)
  replace HV := Lib.hid (HV.out.below hb)
  clear hb x0 x1 CM
  by_cases hm : SM.may x
  · rw [if_pos hm]
    have HM := Lib.hid hm
    clear hm
    obtain ⟨x0, x1, _, _⟩ := X.out.two
    go_wp2_with fail
    refine (CG.out _).mono ?_
    rintro e w3 ⟨rfl, hb⟩
    replace HB2 := Lib.hid (HB2.out.trans (hb.mono HB2.out.size))
    replace X := Lib.hid (X.out.below hb X.out.lt)
    replace Y := Lib.hid (Y.out.below hb Y.out.lt)
    replace HV := Lib.hid (HV.out.below hb)
    clear hb x0 x1 CG
    obtain ⟨x0, x1, _, _⟩ := X.out.two
    obtain ⟨y0, y1, y2, z0, z1, z2⟩ := Y.out.three
    have HFI := Lib.hid (fun a b e => (below_put3 HB2.out (by have := HG.out; omega) a b e : Below W.heap.size W (((w3.setCell ⟨g0 + 1, 0, none⟩ a).setCell ⟨g0 + 1, 1, none⟩ b).setCell ⟨g0 + 1, 2, none⟩ e)))
    by_cases hgg : 0 ≤ g ∧ g < (x.logs.length : Int)
    · rw [decide_eq_true hgg]
      have hG := Lib.hid hgg
      clear hgg
      by_cases s1 : s < 1
      · obtain rfl : o = (SM.vz, 2) := by have := hG.out; rw [HO.out, if_neg (by simpa using HM.out), if_neg (by omega), if_pos (.inl s1)]
        go_wp2_with fail
        exact bodyPost_ret (v := .tuple #[.agg #[.int .i64 0, .int .i64 0, .string ⟨#[]⟩], .int .i64 2]) (by simp [results, Try.results22, go_sem, y0, y1, y2]; try rfl) rfl ⟨rfl, HFI.out _ _ _⟩
      by_cases s2 : 200 < s
      · obtain rfl : o = (SM.vz, 2) := by have := hG.out; rw [HO.out, if_neg (by simpa using HM.out), if_neg (by omega), if_pos (.inr s2)]
        go_wp2_with fail
        exact bodyPost_ret (v := .tuple #[.agg #[.int .i64 0, .int .i64 0, .string ⟨#[]⟩], .int .i64 2]) (by simp [results, Try.results22, go_sem, y0, y1, y2]; try rfl) rfl ⟨rfl, HFI.out _ _ _⟩
      obtain rfl : o = (SM.find x.votes g s, 0) := by have := hG.out; rw [HO.out, if_neg (by simpa using HM.out), if_neg (by omega), if_neg (by omega)]
      clear HFI
      go_wp2_with fail
      refine (CV.out HM.out _ HV.out).mono ?_
      rintro e w4 ⟨rfl, hb⟩
      have HB3 := Lib.hid (HB2.out.trans (hb.mono HB2.out.size))
      have Y3 := Lib.hid (Y.out.below hb Y.out.lt)
      clear hb x0 x1 y0 y1 y2 z0 z1 z2
      obtain ⟨y0, y1, y2, z0, z1, z2⟩ := Y3.out.three
      go_wp2_with fail
      exact bodyPost_ret (v := .tuple #[.agg #[.int .i64 (SM.find x.votes g s).p, .int .i64 (SM.find x.votes g s).b, .string (SM.find x.votes g s).v], .int .i64 0]) (by simp [results, Try.results22, go_sem, y0, y1, y2]; try rfl) rfl ⟨rfl, below_put3 HB3.out (by have := HG.out; omega) _ _ _⟩
    · rw [decide_eq_false hgg]
      obtain rfl : o = (SM.vz, 6) := by rw [HO.out, if_neg (by simpa using HM.out), if_pos (by omega)]
      clear hgg
      go_wp2_with fail
      exact bodyPost_ret (v := .tuple #[.agg #[.int .i64 0, .int .i64 0, .string ⟨#[]⟩], .int .i64 6]) (by simp [results, Try.results22, go_sem, y0, y1, y2]; try rfl) rfl ⟨rfl, HFI.out _ _ _⟩
  · rw [if_neg hm]
    obtain rfl : o = (SM.vz, 8) := by rw [HO.out, if_pos hm]
    clear hm
    obtain ⟨y0, y1, y2, z0, z1, z2⟩ := Y.out.three
    have HFI := Lib.hid (fun a b e => (below_put3 HB2.out (by have := HG.out; omega) a b e : Below W.heap.size W (((w2.setCell ⟨g0 + 1, 0, none⟩ a).setCell ⟨g0 + 1, 1, none⟩ b).setCell ⟨g0 + 1, 2, none⟩ e)))
    go_wp2_with fail
    exact bodyPost_ret (v := .tuple #[.agg #[.int .i64 0, .int .i64 0, .string ⟨#[]⟩], .int .i64 8]) (by simp [results, Try.results22, go_sem, y0, y1, y2]; try rfl) rfl ⟨rfl, HFI.out _ _ _⟩
end Go.Proofs.Ytohiemdodffhoaa.SP

namespace Go.Proofs.Ytohiemdodffhoaa.SP
open Go.RowKit
open SM (Sn Sb Vo)
set_option linter.unusedVariables false
set_option linter.unusedSimpArgs false
set_option maxRecDepth 100000

/-- a vote that differs -/
def Diff (u v : Sn) : Prop := u.g ≠ v.g ∨ (u.g = v.g ∧ u.s ≠ v.s) ∨ (u.g = v.g ∧ u.s = v.s ∧ u.o.p ≠ v.o.p) ∨ (u.g = v.g ∧ u.s = v.s ∧ u.o.p = v.o.p ∧ u.o.b ≠ v.o.b) ∨ (u.g = v.g ∧ u.s = v.s ∧ u.o.p = v.o.p ∧ u.o.b = v.o.b ∧ u.o.v ≠ v.o.v)
theorem diff_of {u v : Sn} (h : u ≠ v) : Diff u v := by
  obtain ⟨g, s, p, b, t⟩ := u
  obtain ⟨g', s', p', b', t'⟩ := v
  unfold Diff
  simp only
  by_cases h1 : g = g'
  · by_cases h2 : s = s'
    · by_cases h3 : p = p'
      · by_cases h4 : b = b'
        · by_cases h5 : t = t'
          · subst h1 h2 h3 h4 h5; exact absurd rfl h
          · exact .inr (.inr (.inr (.inr ⟨h1, h2, h3, h4, h5⟩)))
        · exact .inr (.inr (.inr (.inl ⟨h1, h2, h3, h4⟩)))
      · exact .inr (.inr (.inl ⟨h1, h2, h3⟩))
    · exact .inr (.inl ⟨h1, h2⟩)
  · exact .inl h1
set_option maxHeartbeats 4000000 in
theorem rsamevotes_any (A B : Option Addr) (n m ca cb : Nat) (l r : List Sn) (w : World) (h1 : VotesIs w A n ca l) (h2 : VotesIs w B m cb r) :
    Calls Try.prog 49 #[.slice A n ca, .slice B m cb] w fun e w' => e = .returned (.bool (decide (l = r))) ∧ ∃ q, w' = w.drewN q := by
  obtain ⟨h1, hl, hn1, hm, hf1⟩ := h1
  obtain ⟨h2, hr, hn2, hm2, hf2⟩ := h2
  unfold maxLen at hm hm2
  obtain ⟨x, hx⟩ : ∃ x, x = decide (l = r) := ⟨_, rfl⟩
  rw [← hx]
  have HX := Lib.hid hx
  have HL := Lib.hid hl
  have HR := Lib.hid hr
  clear hx hl hr
  by_cases hnm : n = m
  · subst hnm
    by_cases h0 : 0 < n
    · obtain ⟨bl1, o1, rfl⟩ := hf1 h0
      obtain ⟨bl2, o2, rfl⟩ := hf2 h0
      have H1 := Lib.hid h1
      have H2 := Lib.hid h2
      clear h1 h2 hf1 hf2
      have hne : ((n : Int) != (n : Int)) = false := by simp
      go_enter Try.func49, Try.ntmps49
      go_wp2_with fail
      go_loopw [5] (fun i wr => ∃ k q : Nat, k ≤ n ∧ i = .int .i64 k ∧ wr = w.drewN q ∧ Hid (l.take k = r.take k)) (fun i _ => n - (intOf i).toNat)
      case atStart => exact ⟨0, 0, Nat.zero_le _, rfl, rfl, Lib.hid (by simp)⟩
      case round =>
        obtain ⟨k, q, hk, rfl, rfl, HK⟩ := hrel
        by_cases hlt : k < n
        · have hkl : k < l.length := by have := HL.out; omega
          have hkr : k < r.length := by have := HR.out; omega
          obtain ⟨u, hu⟩ : ∃ u, l[k]? = some u := ⟨_, List.getElem?_eq_getElem hkl⟩
          obtain ⟨v, hv⟩ : ∃ v, r[k]? = some v := ⟨_, List.getElem?_eq_getElem hkr⟩
          obtain ⟨c0, c1, c2, c3, c4⟩ := rdg_sn H1.out hu
          obtain ⟨d0, d1, d2, d3, d4⟩ := rdg_sn H2.out hv
          have HU := Lib.hid hu; have HV := Lib.hid hv; clear hu hv
          have hk0 : (0 : Int) ≤ (k : Int) := by omega
          have hkn : (k : Int) < (n : Int) := by omega
          by_cases huv : u = v
          · subst huv
            go_wp2_with fail
            go_quiet (fail)
            go_wp2_with fail
            go_roundw
            case rel => exact ⟨k + 1, q + nq, by omega, by go_num, by simp, Lib.hid (by
                rw [List.take_add_one, List.take_add_one, HK.out, HU.out, HV.out])⟩
            case measure => simp [intOf]; omega
          · obtain rfl : x = false := by rw [HX.out, decide_eq_false_iff_not]; intro h; have h3 := HU.out; rw [h, HV.out] at h3; injection h3 with h3; exact huv h3.symm
            have hD := diff_of huv
            unfold Diff at hD
            clear huv
            obtain ⟨g, s, p, b, t⟩ := u
            obtain ⟨g', s', p', b', t'⟩ := v
            simp only at hD c0 c1 c2 c3 c4 d0 d1 d2 d3 d4
            rcases hD with h | ⟨h0, h⟩ | ⟨h0, h1, h⟩ | ⟨h0, h1, h2, h⟩ | ⟨h0, h1, h2, h3, h⟩
            · have e : (g == g') = false := by simpa using h
              clear h
              go_wp2_with fail
              go_quiet (fail)
              go_wp2_with fail
              go_ret
              exact ⟨rfl, _, (by simp; rfl)⟩
            · subst h0
              have e : (s == s') = false := by simpa using h
              clear h
              go_wp2_with fail
              go_quiet (fail)
              go_wp2_with fail
              go_ret
              exact ⟨rfl, _, (by simp; rfl)⟩
            · subst h0 h1
              have e : (p == p') = false := by simpa using h
              clear h
              go_wp2_with fail
              go_quiet (fail)
              go_wp2_with fail
              go_ret
              exact ⟨rfl, _, (by simp; rfl)⟩
            · subst h0 h1 h2
              have e : (b == b') = false := by simpa using h
              clear h
              go_wp2_with fail
              go_quiet (fail)
              go_wp2_with fail
              go_ret
              exact ⟨rfl, _, (by simp; rfl)⟩
            · subst h0 h1 h2 h3
              have e := tstr_ne h
              clear h
              go_wp2_with fail
              go_quiet (fail)
              go_wp2_with fail
              go_ret
              exact ⟨rfl, _, (by simp; rfl)⟩
        · obtain rfl : x = true := by
            rw [HX.out, decide_eq_true_iff]
            have := HK.out
            rwa [List.take_of_length_le (by have := HL.out; omega), List.take_of_length_le (by have := HR.out; omega)] at this
          go_wp2_with fail
          go_ret
          exact ⟨rfl, q, rfl⟩
    · obtain rfl : n = 0 := by omega
      obtain rfl : x = true := by rw [HX.out, decide_eq_true_iff, List.eq_nil_of_length_eq_zero HL.out, List.eq_nil_of_length_eq_zero HR.out]
      clear h1 h2 hf1 hf2 h0
      go_enter Try.func49, Try.ntmps49
      go_wp2_with fail
      go_loopw [5] (fun i wr => i = .int .i64 0 ∧ wr = w) (fun i _ => 0)
      case atStart => exact ⟨rfl, rfl⟩
      case round =>
        obtain ⟨rfl, rfl⟩ := hrel
        go_wp2_with fail
        go_ret
        exact ⟨rfl, 0, rfl⟩
  · obtain rfl : x = false := by rw [HX.out, decide_eq_false_iff_not]; intro h; have := HL.out; have := HR.out; rw [h] at *; omega
    have hne : ((n : Int) != (m : Int)) = true := by simp; omega
    clear h1 h2 hf1 hf2
    go_enter Try.func49, Try.ntmps49
    go_wp2_with fail
    go_ret
    exact ⟨rfl, 0, rfl⟩
end Go.Proofs.Ytohiemdodffhoaa.SP

namespace Go.Proofs.Ytohiemdodffhoaa.SP
open Go.RowKit Go.Shelf
open SM (Sn Sb Vo)
set_option linter.unusedVariables false
set_option linter.unusedSimpArgs false
set_option maxRecDepth 100000

set_option maxHeartbeats 1000000 in
theorem equalS_any (A B : Option Addr) (n m ca cb : Nat) (l r : List ByteArray) (w : World) (h1 : Rd w A n (tc l)) (h2 : Rd w B m (tc r)) (hm : n ≤ maxLen) (hm2 : m ≤ maxLen) :
    Calls Try.prog 56 #[.slice A n ca, .slice B m cb] w fun e w' => e = .returned (.bool (decide (l = r))) ∧ ∃ q, w' = w.drewN q := by
  have hl : l.length = n := by have := h1.1; rwa [tc_length] at this
  have hr : r.length = m := by have := h2.1; rwa [tc_length] at this
  unfold maxLen at hm hm2
  obtain ⟨x, hx⟩ : ∃ x, x = decide (l = r) := ⟨_, rfl⟩
  rw [← hx]
  have HX := Lib.hid hx
  have HL := Lib.hid hl
  have HR := Lib.hid hr
  have H1 := Lib.hid h1
  have H2 := Lib.hid h2
  clear hx hl hr h1 h2
  by_cases hnm : n = m
  · subst hnm
    go_enter Try.func56, Try.ntmps56
    have hne : ((n : Int) != (n : Int)) = false := by simp
    go_wp2_with fail
    go_loopw [13] (fun i wr => ∃ k q : Nat, k ≤ n ∧ i = .int .i64 k ∧ wr = w.drewN q ∧ Hid (l.take k = r.take k)) (fun i _ => n - (intOf i).toNat)
    case atStart => exact ⟨0, 0, Nat.zero_le _, rfl, rfl, Lib.hid (by simp)⟩
    case round =>
      obtain ⟨k, q, hk, rfl, rfl, HK⟩ := hrel
      by_cases hlt : k < n
      · have hkl : k < l.length := by have := HL.out; omega
        have hkr : k < r.length := by have := HR.out; omega
        obtain ⟨u, hu⟩ : ∃ u, l[k]? = some u := ⟨_, List.getElem?_eq_getElem hkl⟩
        obtain ⟨v, hv⟩ : ∃ v, r[k]? = some v := ⟨_, List.getElem?_eq_getElem hkr⟩
        obtain ⟨ad1, rfl, _, hc1⟩ := rd_text H1.out hu
        obtain ⟨ad2, rfl, _, hc2⟩ := rd_text H2.out hv
        have HU := Lib.hid hu; have HV := Lib.hid hv; clear hu hv
        have hk0 : (0 : Int) ≤ (k : Int) := by omega
        have hkn : (k : Int) < (n : Int) := by omega
        by_cases huv : u = v
        · subst huv
          go_wp2_with fail
          go_quiet (fail)
          go_wp2_with fail
          go_roundw
          case rel => exact ⟨k + 1, q + nq, by omega, by go_num, by simp, Lib.hid (by
              rw [List.take_add_one, List.take_add_one, HK.out, HU.out, HV.out])⟩
          case measure => simp [intOf]; omega
        · have hne2 := tstr_ne huv
          obtain rfl : x = false := by rw [HX.out, decide_eq_false_iff_not]; intro h; have h3 := HU.out; rw [h, HV.out] at h3; injection h3 with h3; exact huv h3.symm
          go_wp2_with fail
          go_quiet (fail)
          go_wp2_with fail
          go_ret
          exact ⟨rfl, _, (by simp; rfl)⟩
      · obtain rfl : x = true := by
          rw [HX.out, decide_eq_true_iff]
          have := HK.out
          rwa [List.take_of_length_le (by have := HL.out; omega), List.take_of_length_le (by have := HR.out; omega)] at this
        go_wp2_with fail
        go_ret
        exact ⟨rfl, q, rfl⟩
  · obtain rfl : x = false := by rw [HX.out, decide_eq_false_iff_not]; intro h; have := HL.out; have := HR.out; rw [h] at *; omega
    have hne : ((n : Int) != (m : Int)) = true := by simp; omega
    go_enter Try.func56, Try.ntmps56
    go_wp2_with fail
    go_ret
    exact ⟨rfl, 0, rfl⟩
set_option maxHeartbeats 4000000 in
theorem equalV_any (A B : Option Addr) (n m ca cb : Nat) (l r : List Sn) (w : World) (h1 : VotesIs w A n ca l) (h2 : VotesIs w B m cb r) :
    Calls Try.prog 57 #[.slice A n ca, .slice B m cb] w fun e w' => e = .returned (.bool (decide (l = r))) ∧ ∃ q, w' = w.drewN q := by
  obtain ⟨h1, hl, hn1, hm, hf1⟩ := h1
  obtain ⟨h2, hr, hn2, hm2, hf2⟩ := h2
  unfold maxLen at hm hm2
  obtain ⟨x, hx⟩ : ∃ x, x = decide (l = r) := ⟨_, rfl⟩
  rw [← hx]
  have HX := Lib.hid hx
  have HL := Lib.hid hl
  have HR := Lib.hid hr
  clear hx hl hr
  by_cases hnm : n = m
  · subst hnm
    by_cases h0 : 0 < n
    · obtain ⟨bl1, o1, rfl⟩ := hf1 h0
      obtain ⟨bl2, o2, rfl⟩ := hf2 h0
      have H1 := Lib.hid h1
      have H2 := Lib.hid h2
      clear h1 h2 hf1 hf2
      have hne : ((n : Int) != (n : Int)) = false := by simp
      go_enter Try.func57, Try.ntmps57
      go_wp2_with fail
      go_loopw [13] (fun i wr => ∃ k q : Nat, k ≤ n ∧ i = .int .i64 k ∧ wr = w.drewN q ∧ Hid (l.take k = r.take k)) (fun i _ => n - (intOf i).toNat)
      case atStart => exact ⟨0, 0, Nat.zero_le _, rfl, rfl, Lib.hid (by simp)⟩
      case round =>
        obtain ⟨k, q, hk, rfl, rfl, HK⟩ := hrel
        by_cases hlt : k < n
        · have hkl : k < l.length := by have := HL.out; omega
          have hkr : k < r.length := by have := HR.out; omega
          obtain ⟨u, hu⟩ : ∃ u, l[k]? = some u := ⟨_, List.getElem?_eq_getElem hkl⟩
          obtain ⟨v, hv⟩ : ∃ v, r[k]? = some v := ⟨_, List.getElem?_eq_getElem hkr⟩
          obtain ⟨c0, c1, c2, c3, c4⟩ := rdg_sn H1.out hu
          obtain ⟨d0, d1, d2, d3, d4⟩ := rdg_sn H2.out hv
          have HU := Lib.hid hu; have HV := Lib.hid hv; clear hu hv
          have hk0 : (0 : Int) ≤ (k : Int) := by omega
          have hkn : (k : Int) < (n : Int) := by omega
          by_cases huv : u = v
          · subst huv
            go_wp2_with fail
            go_quiet (fail)
            go_wp2_with fail
            go_roundw
            case rel => exact ⟨k + 1, q + nq, by omega, by go_num, by simp, Lib.hid (by
                rw [List.take_add_one, List.take_add_one, HK.out, HU.out, HV.out])⟩
            case measure => simp [intOf]; omega
          · obtain rfl : x = false := by rw [HX.out, decide_eq_false_iff_not]; intro h; have h3 := HU.out; rw [h, HV.out] at h3; injection h3 with h3; exact huv h3.symm
            have hD := diff_of huv
            unfold Diff at hD
            clear huv
            obtain ⟨g, s, p, b, t⟩ := u
            obtain ⟨g', s', p', b', t'⟩ := v
            simp only at hD c0 c1 c2 c3 c4 d0 d1 d2 d3 d4
            rcases hD with h | ⟨h0, h⟩ | ⟨h0, h1, h⟩ | ⟨h0, h1, h2, h⟩ | ⟨h0, h1, h2, h3, h⟩
            · have e : (g == g') = false := by simpa using h
              clear h
              go_wp2_with fail
              go_quiet (fail)
              go_wp2_with fail
              go_ret
              exact ⟨rfl, _, (by simp; rfl)⟩
            · subst h0
              have e : (s == s') = false := by simpa using h
              clear h
              go_wp2_with fail
              go_quiet (fail)
              go_wp2_with fail
              go_ret
              exact ⟨rfl, _, (by simp; rfl)⟩
            · subst h0 h1
              have e : (p == p') = false := by simpa using h
              clear h
              go_wp2_with fail
              go_quiet (fail)
              go_wp2_with fail
              go_ret
              exact ⟨rfl, _, (by simp; rfl)⟩
            · subst h0 h1 h2
              have e : (b == b') = false := by simpa using h
              clear h
              go_wp2_with fail
              go_quiet (fail)
              go_wp2_with fail
              go_ret
              exact ⟨rfl, _, (by simp; rfl)⟩
            · subst h0 h1 h2 h3
              have e := tstr_ne h
              clear h
              go_wp2_with fail
              go_quiet (fail)
              go_wp2_with fail
              go_ret
              exact ⟨rfl, _, (by simp; rfl)⟩
        · obtain rfl : x = true := by
            rw [HX.out, decide_eq_true_iff]
            have := HK.out
            rwa [List.take_of_length_le (by have := HL.out; omega), List.take_of_length_le (by have := HR.out; omega)] at this
          go_wp2_with fail
          go_ret
          exact ⟨rfl, q, rfl⟩
    · obtain rfl : n = 0 := by omega
      obtain rfl : x = true := by rw [HX.out, decide_eq_true_iff, List.eq_nil_of_length_eq_zero HL.out, List.eq_nil_of_length_eq_zero HR.out]
      clear h1 h2 hf1 hf2 h0
      go_enter Try.func57, Try.ntmps57
      go_wp2_with fail
      go_loopw [13] (fun i wr => i = .int .i64 0 ∧ wr = w) (fun i _ => 0)
      case atStart => exact ⟨rfl, rfl⟩
      case round =>
        obtain ⟨rfl, rfl⟩ := hrel
        go_wp2_with fail
        go_ret
        exact ⟨rfl, 0, rfl⟩
  · obtain rfl : x = false := by rw [HX.out, decide_eq_false_iff_not]; intro h; have := HL.out; have := HR.out; rw [h] at *; omega
    have hne : ((n : Int) != (m : Int)) = true := by simp; omega
    clear h1 h2 hf1 hf2
    go_enter Try.func57, Try.ntmps57
    go_wp2_with fail
    go_ret
    exact ⟨rfl, 0, rfl⟩
set_option maxHeartbeats 4000000 in
theorem equalF_any (A B : Option Addr) (n m ca cb : Nat) (l r : List (List ByteArray)) (w : World) (h1 : LogsIs w A n ca l) (h2 : LogsIs w B m cb r) :
    Calls Try.prog 55 #[.slice A n ca, .slice B m cb, .func (.func 56) #[] #[]] w fun e w' => e = .returned (.bool (decide (l = r))) ∧ ∃ q, w' = w.drewN q := by
  obtain ⟨hl, m1, m2⟩ := rows_rd2 h1
  obtain ⟨hr, m3, m4⟩ := rows_rd2 h2
  unfold maxLen at m2 m4
  have eg : ∀ args w, (callFunc 56 args).run Try.prog w = .ok (.enter 56 args) w := enters_of Try.func56 (by kernel_rfl) rfl
  obtain ⟨x, hx⟩ : ∃ x, x = decide (l = r) := ⟨_, rfl⟩
  rw [← hx]
  have HX := Lib.hid hx
  have HL := Lib.hid hl
  have HR := Lib.hid hr
  have H1 := Lib.hid h1
  have H2 := Lib.hid h2
  clear hx hl hr h1 h2
  by_cases hnm : n = m
  · subst hnm
    have hne : ((n : Int) != (n : Int)) = false := by simp
    go_enter Try.func55, Try.ntmps55
    go_wp2_with fail
    go_loopw [17] (fun i wr => ∃ k q : Nat, k ≤ n ∧ i = .int .i64 k ∧ wr = w.drewN q ∧ Hid (l.take k = r.take k)) (fun i _ => n - (intOf i).toNat)
    case atStart => exact ⟨0, 0, Nat.zero_le _, rfl, rfl, Lib.hid (by simp)⟩
    case round =>
      obtain ⟨k, q, hk, rfl, rfl, HK⟩ := hrel
      by_cases hlt : k < n
      · obtain ⟨u, hu⟩ : ∃ u, l[k]? = some u := ⟨_, List.getElem?_eq_getElem (by have := HL.out; omega)⟩
        obtain ⟨v, hv⟩ : ∃ v, r[k]? = some v := ⟨_, List.getElem?_eq_getElem (by have := HR.out; omega)⟩
        obtain ⟨ad1, D1, f1, rfl, _, e1, r1, hd1, hm1⟩ := logs_get H1.out hu
        obtain ⟨ad2, D2, f2, rfl, _, e2, r2, hd2, hm2⟩ := logs_get H2.out hv
        have C := Lib.hid (fun (q : Nat) => equalS_any D1 D2 u.length v.length f1 f2 u v (w.drewN q) (r1.drewN q) (r2.drewN q) (Nat.le_trans hd1 hm1) (Nat.le_trans hd2 hm2))
        have HU := Lib.hid hu; have HV := Lib.hid hv
        clear hu hv r1 r2 hd1 hd2 hm1 hm2
        have hk0 : (0 : Int) ≤ (k : Int) := by omega
        have hkn : (k : Int) < (n : Int) := by omega
        by_cases huv : u = v
        · rw [decide_eq_true huv] at C
          have HUV := Lib.hid huv
          clear huv
          go_wp2_with (go_at_fn 56; refine (C.out _).mono ?_; rintro e w' ⟨rfl, nq, rfl⟩)
          go_roundw
          case rel => exact ⟨k + 1, q + nq, by omega, by go_num, by simp, Lib.hid (by
              rw [List.take_add_one, List.take_add_one, HK.out, HU.out, HV.out, HUV.out])⟩
          case measure => simp [intOf]; omega
        · rw [decide_eq_false huv] at C
          obtain rfl : x = false := by rw [HX.out, decide_eq_false_iff_not]; intro h; have h3 := HU.out; rw [h, HV.out] at h3; injection h3 with h3; exact huv h3.symm
          clear huv
          go_wp2_with (go_at_fn 56; refine (C.out _).mono ?_; rintro e w' ⟨rfl, nq, rfl⟩)
          go_ret
          exact ⟨rfl, q + nq, by simp⟩
      · obtain rfl : x = true := by
          rw [HX.out, decide_eq_true_iff]
          have := HK.out
          rwa [List.take_of_length_le (by have := HL.out; omega), List.take_of_length_le (by have := HR.out; omega)] at this
        go_wp2_with fail
        go_ret
        exact ⟨rfl, q, rfl⟩
  · obtain rfl : x = false := by rw [HX.out, decide_eq_false_iff_not]; intro h; have := HL.out; have := HR.out; rw [h] at *; omega
    have hne : ((n : Int) != (m : Int)) = true := by simp; omega
    go_enter Try.func55, Try.ntmps55
    go_wp2_with fail
    go_ret
    exact ⟨rfl, 0, rfl⟩
set_option maxHeartbeats 4000000 in
theorem same_any (u v : Value) (x y : Sb) (w : World) (H : StIs w u x) (K : StIs w v y) :
    Calls Try.prog 28 #[u, v] w fun e w' => e = .returned (.bool (decide (x = y))) ∧ Below w.heap.size w w' := by
  obtain ⟨A, c, B, d, rfl, hl1, hv1⟩ := H
  obtain ⟨A', c', B', d', rfl, hl2, hv2⟩ := K
  obtain ⟨x, xv⟩ := x
  obtain ⟨y, yv⟩ := y
  simp only at hl1 hv1 hl2 hv2 ⊢
  have hb2 : Below w.heap.size w ((w.alloc (.cells #[.slice A x.length c, .slice B xv.length d] 25)).alloc (.cells #[.slice A' y.length c', .slice B' yv.length d'] 25)) := ((Below.refl _ _).alloc (Nat.le_refl _) _).alloc (by simp) _
  have HB := Lib.hid hb2
  have B1 := Lib.hid ((Box.new w 25 #[.slice A x.length c, .slice B xv.length d]).alloc (.cells #[.slice A' y.length c', .slice B' yv.length d'] 25))
  have B2 := Lib.hid (Box.new_at (w := w.alloc (.cells #[.slice A x.length c, .slice B xv.length d] 25)) (t := 25) (cs := #[.slice A' y.length c', .slice B' yv.length d']) (w.heap.size + 1) (by simp))
  have CF := Lib.hid (equalF_any A A' x.length y.length c c' x y _ (hl1.below hb2) (hl2.below hb2))
  have CV := Lib.hid (fun (q : Nat) => equalV_any B B' xv.length yv.length d d' xv yv _ ((hv1.below hb2).below (below_drewN (Below.refl _ _) q)) ((hv2.below hb2).below (below_drewN (Below.refl _ _) q)))
  obtain ⟨r, hr⟩ : ∃ r, r = decide ((⟨x, xv⟩ : Sb) = ⟨y, yv⟩) := ⟨_, rfl⟩
  rw [← hr]
  have HR := Lib.hid hr
  clear hr hl1 hv1 hl2 hv2 hb2
  go_enter Try.func28, Try.ntmps28
  go_upto_region 1 with (fail)
  generalize (w.alloc (.cells #[.slice A x.length c, .slice B xv.length d] 25)).alloc (.cells #[.slice A' y.length c', .slice B' yv.length d'] 25) = w1 at HB B1 B2 CF CV ⊢
  generalize w.heap.size = g at B1 B2 ⊢
  obtain ⟨c0, c1, _, _⟩ := B1.out.two
  obtain ⟨d0, d1, _, _⟩ := B2.out.two
  by_cases hxy : x = y
  · rw [decide_eq_true hxy] at CF
    have HXY := Lib.hid hxy
    clear hxy
    by_cases hv : xv = yv
    · rw [decide_eq_true hv] at CV
      obtain rfl : r = true := by rw [HR.out, decide_eq_true_iff, HXY.out, hv]
      clear hv
      go_wp2_with fail
      refine (CF.out).mono ?_
      rintro e w2 ⟨rfl, q, rfl⟩
      go_wp2_with fail
      refine (CV.out q).mono ?_
      rintro e w3 ⟨rfl, q2, rfl⟩
      go_wp2_with fail
      go_ret
      exact ⟨rfl, below_drewN HB.out _⟩
    · rw [decide_eq_false hv] at CV
      obtain rfl : r = false := by rw [HR.out, decide_eq_false_iff_not]; intro h; injection h with _ h; exact hv h
      clear hv
      go_wp2_with fail
      refine (CF.out).mono ?_
      rintro e w2 ⟨rfl, q, rfl⟩
      go_wp2_with fail
      refine (CV.out q).mono ?_
      rintro e w3 ⟨rfl, q2, rfl⟩
      go_wp2_with fail
      go_ret
      exact ⟨rfl, below_drewN HB.out _⟩
  · rw [decide_eq_false hxy] at CF
    obtain rfl : r = false := by rw [HR.out, decide_eq_false_iff_not]; intro h; injection h with h _; exact hxy h
    clear hxy
    go_wp2_with fail
    refine (CF.out).mono ?_
    rintro e w2 ⟨rfl, q, rfl⟩
    go_wp2_with fail
    go_ret
    exact ⟨rfl, below_drewN HB.out _⟩
end Go.Proofs.Ytohiemdodffhoaa.SP

namespace Go.Proofs.Ytohiemdodffhoaa.SP
open Go.RowKit
open SM (Sn Sb Vo)
set_option linter.unusedVariables false

theorem newP : NewP := fun n W => (new_any n W).mono fun e w' ⟨v, h1, h2, h3⟩ => ⟨v, h1, h2.ty, h3⟩
theorem appP : AppP := fun v x k g s b t W H F ht h1 h2 => (apply_any v x k g s b t W H F ht h1 h2).mono fun e w' ⟨v', a, b, c⟩ => ⟨v', a, b.ty, c⟩
theorem atP : AtP := fun v x g s W H F => at_any v x g s W H F
theorem imgP : ImgP := fun v x W H F => image_any v x W H F
theorem repP : RepP := fun n A m c l W h1 h2 h3 => replay_any n A m c l W h1 h2 h3
theorem samP : SamP := fun u v x y w H K _ _ => same_any u v x y w H K
theorem chkP : ChkP := fun v x W H F => (check_any v x W H F).mono fun e w' ⟨h1, h2⟩ => ⟨_, h1, by by_cases h : SM.may x <;> simp [h], h2⟩
end Go.Proofs.Ytohiemdodffhoaa.SP

namespace Go.Proofs.Ytohiemdodffhoaa.SP
open Go.RowKit
open SM (Sn Sb Vo)
set_option linter.unusedVariables false
set_option linter.unusedSimpArgs false
set_option maxRecDepth 100000

theorem rows_rd {w : World} {A : Option Addr} {n c : Nat} {ls : List (List ByteArray)} (h : LogsIs w A n c ls) : ls.length = n ∧ n ≤ c ∧ c ≤ maxLen := by
  obtain ⟨_, _, _, h3, h4, h5⟩ := h
  exact ⟨h3, h4, h5⟩
set_option maxHeartbeats 4000000 in
theorem rsame_any (u v : Value) (x y : Sb) (w : World) (h1 : StIs w u x) (h2 : StIs w v y) :
    Calls Try.prog 25 #[u, v] w fun e w' => e = .returned (.bool (decide (x = y))) ∧ Below w.heap.size w w' := by
  obtain ⟨A, c, B, d, rfl, hl1, hv1⟩ := h1
  obtain ⟨A', c', B', d', rfl, hl2, hv2⟩ := h2
  obtain ⟨x, xv⟩ := x
  obtain ⟨y, yv⟩ := y
  simp only at hl1 hv1 hl2 hv2
  have hb2 : Below w.heap.size w ((w.alloc (.cells #[.slice A x.length c, .slice B xv.length d] 25)).alloc (.cells #[.slice A' y.length c', .slice B' yv.length d'] 25)) :=
    ((Below.refl _ _).alloc (Nat.le_refl _) _).alloc (by simp) _
  have HB := Lib.hid hb2
  have B1 := Lib.hid ((Box.new w 25 #[.slice A x.length c, .slice B xv.length d]).alloc (.cells #[.slice A' y.length c', .slice B' yv.length d'] 25))
  have B2 := Lib.hid (Box.new_at (w := w.alloc (.cells #[.slice A x.length c, .slice B xv.length d] 25)) (t := 25) (cs := #[.slice A' y.length c', .slice B' yv.length d']) (w.heap.size + 1) (by simp))
  have L1 := Lib.hid (hl1.below hb2); have V1 := Lib.hid (hv1.below hb2); have L2 := Lib.hid (hl2.below hb2); have V2 := Lib.hid (hv2.below hb2)
  obtain ⟨_, m1, m2⟩ := rows_rd hl1
  obtain ⟨_, m3, m4⟩ := rows_rd hl2
  unfold maxLen at m2 m4
  obtain ⟨r, hr⟩ : ∃ r, r = decide ((⟨x, xv⟩ : Sb) = ⟨y, yv⟩) := ⟨_, rfl⟩
  rw [← hr]
  have HR := Lib.hid hr
  clear hr hl1 hv1 hl2 hv2 hb2
  go_enter Try.func25, Try.ntmps25
  go_upto_region 1 with (fail)
  generalize (w.alloc (.cells #[.slice A x.length c, .slice B xv.length d] 25)).alloc (.cells #[.slice A' y.length c', .slice B' yv.length d'] 25) = w1 at HB B1 B2 L1 V1 L2 V2 ⊢
  generalize w.heap.size = g at B1 B2 ⊢
  have c0 := B1.out.cell 0
  have c1 := B1.out.cell 1
  have d0 := B2.out.cell 0
  have d1 := B2.out.cell 1
  simp at c0 c1 d0 d1
  by_cases hn : x.length = y.length
  · rw [← hn] at L2 d0
    have hne : ((x.length : Int) != (x.length : Int)) = false := by simp
    go_wp2_with fail
    refine (rsamevotes_any B B' _ _ d d' xv yv w1 V1.out V2.out).mono ?_
    rintro e w2 ⟨rfl, q, rfl⟩
    by_cases hv : xv = yv
    · rw [decide_eq_true hv]
      have HV := Lib.hid hv; clear hv
      go_wp2_with fail
      clear c0 c1 d0 d1
      go_loopw [5] (fun i wr => ∃ k : Nat, k ≤ x.length ∧ i = .int .i64 k ∧ Hid (Below w1.heap.size w1 wr) ∧ Hid (x.take k = y.take k)) (fun i _ => x.length - (intOf i).toNat)
      case atStart => exact ⟨0, Nat.zero_le _, rfl, Lib.hid (below_drewN (Below.refl _ _) q), Lib.hid (by simp)⟩
      case round =>
        obtain ⟨k, hk, rfl, HQ, HK⟩ := hrel
        have c0 := (B1.out.below HQ.out B1.out.lt).cell 0
        have d0 := (B2.out.below HQ.out B2.out.lt).cell 0
        rw [← hn] at d0
        simp at c0 d0
        by_cases hlt : k < x.length
        · obtain ⟨s, hs⟩ : ∃ s, x[k]? = some s := ⟨_, List.getElem?_eq_getElem hlt⟩
          obtain ⟨t, ht⟩ : ∃ t, y[k]? = some t := ⟨_, List.getElem?_eq_getElem (by omega)⟩
          obtain ⟨ad1, D1, f1, rfl, _, e1, r1, hd1, hm1⟩ := logs_get (L1.out.below HQ.out) hs
          obtain ⟨ad2, D2, f2, rfl, _, e2, r2, hd2, hm2⟩ := logs_get (L2.out.below HQ.out) ht
          have C := Lib.hid (fun nq => (rsametexts_any D1 D2 _ _ f1 f2 s t (wr.drewN nq) (r1.drewN nq) (r2.drewN nq) (by omega) (by omega)).mono (R' := fun e w' => e = .returned (.bool (decide (s = t))) ∧ ∃ m, w' = wr.drewN m) fun e w' ⟨a, m, b⟩ => ⟨a, nq + m, by rw [b]; simp⟩)
          have HS := Lib.hid hs; have HT := Lib.hid ht
          clear hs ht r1 r2 hd1 hd2 hm1 hm2
          have hk0 : (0 : Int) ≤ (k : Int) := by omega
          have hkn : (k : Int) < (x.length : Int) := by omega
          by_cases hst : s = t
          · rw [decide_eq_true hst] at C
            subst hst
            go_wp2_with fail
            go_quiet ((go_at_call 18; with_reducible exact C.out _))
            go_wp2_with fail
            go_roundw
            case rel => exact ⟨k + 1, by omega, by go_num, Lib.hid (below_drewN HQ.out _), Lib.hid (by rw [List.take_add_one, List.take_add_one, HK.out, HS.out, HT.out])⟩
            case measure => simp [intOf]; omega
          · rw [decide_eq_false hst] at C
            obtain rfl : r = false := by
              rw [HR.out, decide_eq_false_iff_not]
              intro h
              injection h with h _
              have := HS.out
              rw [h, HT.out] at this
              injection this with this
              exact hst this.symm
            go_wp2_with fail
            go_quiet ((go_at_call 18; with_reducible exact C.out _))
            go_wp2_with fail
            go_ret
            exact ⟨rfl, below_drewN (bmore HB.out HQ.out (Nat.le_refl _)) _⟩
        · obtain rfl : r = true := by
            rw [HR.out, decide_eq_true_iff, HV.out]
            have := HK.out
            rw [List.take_of_length_le (by omega), List.take_of_length_le (by omega)] at this
            rw [this]
          go_wp2_with fail
          go_ret
          exact ⟨rfl, bmore HB.out HQ.out (Nat.le_refl _)⟩
    · rw [decide_eq_false hv]
      obtain rfl : r = false := by rw [HR.out, decide_eq_false_iff_not]; intro h; injection h with _ h; exact hv h
      go_wp2_with fail
      go_ret
      exact ⟨rfl, below_drewN HB.out _⟩
  · have hne : ((x.length : Int) != (y.length : Int)) = true := by simp; omega
    obtain rfl : r = false := by rw [HR.out, decide_eq_false_iff_not]; intro h; injection h with h _; exact hn (by rw [h])
    go_wp2_with fail
    go_ret
    exact ⟨rfl, HB.out⟩
end Go.Proofs.Ytohiemdodffhoaa.SP
