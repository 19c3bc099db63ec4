/-
  slices.Delete of one piece of mail out of a row of the call's own. Conditions: as the theorem says.
  What package decree's lift leaves: mail taken from what is under way. Conditions: the mail is there.
-/
import Derived.Test.YtiiobafcgdelmaaK18
import Derived.Test.YtiiobafcgdelmaaK12
import Derived.Lib.SliceRun
import Derived.Deep.RegionLaw
import Derived.Test.YtiiobafcgdelmaaK23
namespace Go.Proofs.Ytiiobafcgdelmaa.PD
open Go.RowKit
set_option linter.unusedVariables false
set_option linter.unusedSimpArgs false

theorem run_clear_one {P : Program} (w : World) (t e ty : TypeId) (z : Value) (ht : P.underlying t = some (.slice e)) (hv : ∀ w, (zeroValue e).run P w = .ok z w) (hz : (Builtin.zeroCells z.cells 1).toList = z.cells.toList) (h1 : ∀ u ∈ z.cells.toList, u.oneCell' = true) (b o c : Nat)
    (hc : ∀ j, j < z.cells.toList.length → (w.cell? ⟨b, o + j, none⟩).isSome = true) (hf : ∀ j, j < z.cells.toList.length → w.frozen? ⟨b, o + j, none⟩ = false) :
    (Builtin.clear_ #[t] ty #[.slice (some ⟨b, o, none⟩) 1 c]).run P w = .ok (.tuple #[]) (w.setCells b o z.cells.toList) := by
  have hst := run_storeCells_cells (P := P) b o z.cells.toList 0 w (by simpa using hc) (by simpa using hf) h1
  simp only [Nat.add_zero] at hst
  simp [Builtin.clear_, run_underlying ht, hv, hz, hst]
theorem erase_len {ml : List DC.Ml} {j : Nat} (hj : j < ml.length) : (ml.eraseIdx j).length = ml.length - 1 := by rw [List.length_eraseIdx, if_pos hj]
theorem flat_take {α : Type} {f : α → List Value} {s : Nat} : ∀ (l : List α) (k : Nat), (∀ a ∈ l, (f a).length = s) → (flat f l).take (k * s) = flat f (l.take k)
  | [], k, _ => by simp [flat]
  | a :: l, 0, _ => by simp [flat]
  | a :: l, k + 1, h => by
    have ha := h a (List.mem_cons_self ..)
    rw [flat_cons, List.take_succ_cons, flat_cons, Nat.add_mul, Nat.one_mul, List.take_append, ha, List.take_of_length_le (by omega), Nat.add_sub_cancel, flat_take l k (fun b hb => h b (List.mem_cons_of_mem _ hb))]
theorem flat_drop {α : Type} {f : α → List Value} {s : Nat} : ∀ (l : List α) (k : Nat), (∀ a ∈ l, (f a).length = s) → (flat f l).drop (k * s) = flat f (l.drop k)
  | [], k, _ => by simp [flat]
  | a :: l, 0, _ => by simp [flat]
  | a :: l, k + 1, h => by
    have ha := h a (List.mem_cons_self ..)
    rw [flat_cons, List.drop_succ_cons, Nat.add_mul, Nat.one_mul, List.drop_append, ha, List.drop_eq_nil_of_le (by omega), List.nil_append, Nat.add_sub_cancel, flat_drop l k (fun b hb => h b (List.mem_cons_of_mem _ hb))]
theorem mail10 (ml : List DC.Ml) : ∀ a ∈ ml, (mcell a).length = 10 := fun _ _ => rfl
def zeroM : List Value := [.int .i64 0, .int .i64 0, .int .u8 0, .int .i64 0, .int .i64 0, .int .i64 0, .int .i64 0, .string ⟨#[]⟩, .int .i64 0, .int .i64 0]
def DelIs (base q c n j : Nat) (ml : List DC.Ml) (w : World) (e : Ending) (w' : World) : Prop :=
  e = .returned (.slice (some ⟨q, 0, none⟩) (n - 1) c) ∧ w'.ownsRow base 40 10 (.slice (some ⟨q, 0, none⟩) (n - 1) c) (n - 1) (flat mcell (ml.eraseIdx j)) ∧ w.grownBy w' (some q)
set_option maxRecDepth 100000 in
set_option maxHeartbeats 4000000 in
theorem delete_any (base q c n j : Nat) (ml : List DC.Ml) (w : World) (h : w.ownsRow base 40 10 (.slice (some ⟨q, 0, none⟩) n c) n (flat mcell ml)) (hn : n ≤ 2000) (hj : j < n) :
    Calls Try.prog 49 #[.slice (some ⟨q, 0, none⟩) n c, .int .i64 (j : Nat), .int .i64 ((j : Int) + 1)] w (DelIs base q c n j ml w) := by
  obtain ⟨i0, hi0, hz0, hz1, hz2⟩ := info_parts info_mail
  have hv0 : ∀ W : World, (zeroValue 40).run Try.prog W = .ok (.agg zeroM.toArray) W := fun W => Try.zeroValue40 W
  have hxl : (flat mcell ml).length = n * 10 := h.1
  have hml : ml.length = n := by have := flat_length (f := mcell) (s := 10) (l := ml) (mail10 ml); omega
  rcases h.2 with ⟨h0, _⟩ | ⟨g, cap, cur, hs, hb, hx, hnc, hcm, hsz, htk⟩
  · cases h0
  injection hs with e1 e2 e3
  injection e1 with e1
  injection e1 with e1
  subst e1 e3
  clear h
  unfold maxLen at hcm
  have hone : ∀ u ∈ flat mcell ml, u.oneCell' = true := one_flat m_one ml
  obtain ⟨xs, hxs⟩ : ∃ xs, xs = flat mcell ml := ⟨_, rfl⟩
  rw [← hxs] at hxl htk hone
  have hxc : ∀ k v, xs[k]? = some v → w.cell? ⟨q, k, none⟩ = some v := by
    intro k v hk
    have hjl := (List.getElem?_eq_some_iff.1 hk).1
    rw [Box.cell (g := q) hx k, ← Array.getElem?_toList, ← hk, ← htk, List.getElem?_take, if_pos (by omega)]
  have hdl : (xs.drop ((j + 1) * 10)).length = (n - (j + 1)) * 10 := by rw [List.length_drop, hxl]; omega
  obtain ⟨A, hA, hsrc⟩ : ∃ A : Addr, (if c = j + 1 then some (⟨q, 0, none⟩ : Addr) else some ⟨q, (j + 1) * 10, none⟩) = some A ∧ Hid (∀ t u, (xs.drop ((j + 1) * 10))[t]? = some u → w.drew.cell? (A.add t) = some u) := by
    by_cases h : c = j + 1
    · refine ⟨⟨q, 0, none⟩, by simp [h], fun t u hu => ?_⟩
      have h0 : (xs.drop ((j + 1) * 10)).length = 0 := by rw [hdl]; omega
      rw [List.length_eq_zero_iff.1 h0] at hu
      simp at hu
    · refine ⟨⟨q, (j + 1) * 10, none⟩, by simp [h], fun t u hu => ?_⟩
      rw [Addr.add_lit]
      exact hxc _ _ (by rwa [List.getElem?_drop] at hu)
  have s1 : Hid ((xs.drop ((j + 1) * 10)).length = (n - (j + 1)) * 10) := hdl
  have s2 : Hid (∀ u ∈ xs.drop ((j + 1) * 10), u.oneCell' = true) := fun u hu => hone u (List.mem_of_mem_drop hu)
  have s3 : Hid (∀ t, t < (xs.drop ((j + 1) * 10)).length → (w.drew.cell? ⟨q, 0 + j * 10 + t, none⟩).isSome = true ∧ w.drew.frozen? ⟨q, 0 + j * 10 + t, none⟩ = false) := by
    intro t ht
    rw [hdl] at ht
    exact ⟨Box.isSome (w := w.drew) hx (by omega), Box.frozen (w := w.drew) hx _⟩
  obtain ⟨cu1, bx1, e1⟩ := box_setCells (xs.drop ((j + 1) * 10)) (0 + j * 10) w.drew cur hx (by rw [hdl, hsz]; omega)
  have g1 := grown_setCells q (xs.drop ((j + 1) * 10)) (0 + j * 10) w.drew
  obtain ⟨W1, hW1⟩ : ∃ W1, W1 = w.drew.setCells q (0 + j * 10) (xs.drop ((j + 1) * 10)) := ⟨_, rfl⟩
  rw [← hW1] at bx1 g1
  have hsz1 : cu1.size = cur.size := by rw [← Array.length_toList, e1]; simp [hdl]; omega
  have hcl : ∀ ty cc, (Builtin.clear_ #[25] ty #[.slice (some ⟨q, (n - 1) * 10, none⟩) (n - (n - 1)) cc]).run Try.prog W1 = .ok (.tuple #[]) (W1.setCells q ((n - 1) * 10) zeroM) := fun ty cc => by
    rw [show n - (n - 1) = 1 by omega]
    have := run_clear_one (P := Try.prog) W1 25 40 ty (.agg zeroM.toArray) Try.underlying25 hv0 (by first | kernel_rfl | (simp [Builtin.zeroCells, zeroM, Value.cells])) (by intro u hu; simp [zeroM, Value.cells] at hu; rcases hu with rfl | rfl | rfl | rfl | rfl | rfl | rfl | rfl | rfl | rfl <;> rfl) q ((n - 1) * 10) cc (fun k hk => bx1.isSome (by have hk' : k < 10 := hk; omega)) (fun k hk => bx1.frozen _)
    exact this
  obtain ⟨cu2, bx2, e2⟩ := box_setCells zeroM ((n - 1) * 10) W1 cu1 bx1 (by rw [hsz1, hsz]; show _ + 10 ≤ _; omega)
  have g2 := grown_setCells q zeroM ((n - 1) * 10) W1
  obtain ⟨W2, hW2⟩ : ∃ W2, W2 = W1.setCells q ((n - 1) * 10) zeroM := ⟨_, rfl⟩
  rw [← hW2] at hcl bx2 g2
  have hret : DelIs base q c n j ml w (.returned (.slice (some ⟨q, 0, none⟩) (n - 1) c)) W2 := by
    refine ⟨rfl, ⟨?_, .inr ⟨q, c, cu2, rfl, hb, bx2, by omega, by unfold maxLen; omega, ?_, ?_⟩⟩, grown_more (a := w) ⟨g1.os, g1.tape, g1.output, g1.size, g1.block⟩ g2 (.inl rfl)⟩
    · rw [flat_length (s := 10) (mail10 _), erase_len (by omega), hml]
    · rw [← Array.length_toList, e2]
      have : cu1.toList.length = c * 10 := by rw [Array.length_toList, hsz1, hsz]
      simp [zeroM]
      omega
    · have l1 : cu1.toList.length = c * 10 := by rw [Array.length_toList, hsz1, hsz]
      rw [e2, List.append_assoc, List.take_append_of_le_length (by rw [List.length_take]; omega), List.take_take, Nat.min_self, e1, List.append_assoc]
      have l2 : (cur.toList.take (0 + j * 10)).length = j * 10 := by rw [List.length_take, Array.length_toList, hsz]; omega
      rw [List.take_append, l2]
      have t1 : (cur.toList.take (0 + j * 10)).take ((n - 1) * 10) = cur.toList.take (0 + j * 10) := List.take_of_length_le (by rw [l2]; omega)
      have t2 : (xs.drop ((j + 1) * 10)).take ((n - 1) * 10 - j * 10) = xs.drop ((j + 1) * 10) := List.take_of_length_le (by rw [hdl]; omega)
      rw [t1, List.take_append, t2, hdl, show (n - 1) * 10 - j * 10 - (n - (j + 1)) * 10 = 0 by omega, List.take_zero, List.append_nil]
      rw [show cur.toList.take (0 + j * 10) = xs.take (j * 10) by rw [← htk, List.take_take]; congr 1; omega, hxs, flat_take _ _ (mail10 ml), flat_drop _ _ (mail10 ml), ← flat_append, List.eraseIdx_eq_take_drop_succ]
  have HRET := Lib.hid hret
  have hW : Hid (W1 = w.drew.setCells q (0 + j * 10) (xs.drop ((j + 1) * 10))) := hW1
  clear hret bx2 g2 e2 e1 bx1 g1 hsz1 hx hsz htk hxc hW1 hW2 hone hdl hxs hml hxl
  have hic : j ≤ c := by omega
  have hjc : j + 1 ≤ c := by omega
  have hne : ¬ ((j : Int) = (j : Int) + 1) := by omega
  have htn : ((j : Int) + 1).toNat = j + 1 := by omega
  have hb1 : (0 : Int) ≤ (j : Int) + 1 := by omega
  have hb5 : (j : Int) + 1 ≤ (n : Int) := by omega
  have hb6 : (j : Int) ≤ (j : Int) + 1 := by omega
  have hjn : j + (n - (j + 1)) = n - 1 := by omega
  have mixed : Try.prog.follows Departure.mixedOrders = true := by kernel_rfl
  go_enter Try.func49, Try.ntmps49
  go_wp2_with fail
  go_region_law_o (refine step_append_room rfl (.tmp 22) (.tmp 25) 25 rfl 40 i0 10 Try.underlying25 hi0 hz1 q 0 j c (by simp [Act.eval, Act.put]) A (n - (j + 1)) (c - (j + 1)) (xs.drop ((j + 1) * 10)) (by simp [Act.eval, Act.put]) s1.out hsrc.out s2.out (by omega) s3.out ?_; rw [← hW.out])
  go_wp2_with fail
  go_ret
  exact HRET.out
end Go.Proofs.Ytiiobafcgdelmaa.PD

namespace Go.Proofs.Ytiiobafcgdelmaa.PD
open Go.RowKit Go.Shelf
set_option linter.unusedVariables false
set_option linter.unusedSimpArgs false

theorem below_setCells {B g : Nat} : ∀ (l : List Value) (o : Nat) {a w : World}, Below B a w → B ≤ g → Below B a (w.setCells g o l)
  | [], _, _, _, h, _ => h
  | v :: r, o, _, _, h, hg => below_setCells r (o + 1) (h.setCell (p := ⟨g, o, none⟩) hg v) hg
theorem far_setCells {g g' : Nat} {t : TypeId} {cs : Array Value} (hg : g ≠ g') : ∀ (l : List Value) (o : Nat) {w : World}, Box w g t cs → Box (w.setCells g' o l) g t cs
  | [], _, _, h => h
  | v :: r, o, _, h => far_setCells hg r (o + 1) (h.far (p := ⟨g', o, none⟩) hg v)
theorem kept_setCells {S : TypeId → Prop} {g : Nat} {e : TypeId} (he : S e) : ∀ (l : List Value) (o : Nat) {w : World} {cs : Array Value}, Box w g e cs → Kept S w (w.setCells g o l)
  | [], _, w, _, _ => Kept.refl S w
  | v :: r, o, w, cs, h => (Kept.set h he v).trans (kept_setCells he r (o + 1) (h.stored o v))
theorem box_setAll {w : World} {g : Nat} {t : TypeId} {cs : Array Value} (h : Box w g t cs) (l : List Value) (hl : cs.size = l.length) : Box (w.setCells g 0 l) g t l.toArray := by
  obtain ⟨cs', h1, h2⟩ := box_setCells l 0 w cs h (by omega)
  have e : cs' = l.toArray := by
    rw [List.take_zero, List.nil_append, List.drop_eq_nil_of_le (by rw [Array.length_toList]; omega), List.append_nil] at h2
    rw [← h2]
  rw [← e]; exact h1
def LiftPost (base g : Nat) (w : DC.Wd) (m : DC.Ml) (j : Nat) (W : World) (e : Ending) (W' : World) : Prop :=
  e = .returned (.agg #[.int .i64 m.f, .int .i64 m.t, .int .u8 m.k, .int .i64 m.g, .int .i64 m.s, .int .i64 m.b, .int .i64 m.p, .string m.v, .int .i64 m.i, .int .i64 m.m]) ∧ WdAt W' base g (DC.gone w j) ∧ Kept isTk W W' ∧ Below base W W'
/-- behind the taking out -/
theorem lift_mid {W U w9 : World} {base g q j c3 : Nat} {w : DC.Wd} {A0 A1 A2 A4 : Option Addr} {c0 c1 c2 c4 : Nat} {xs : List Value} (hbase : base ≤ W.heap.size) (hgb : base ≤ g) (hj : j < w.ml.length)
    (hx : Box W g 58 #[.slice A0 w.ms.length c0, .slice A1 w.vs.length c1, .slice A2 w.ts.length c2, .slice (some ⟨q, 0, none⟩) w.ml.length c3, .slice A4 w.ch.length c4])
    (o0 : W.ownsRow base 3 1 (.slice A0 w.ms.length c0) w.ms.length (ic w.ms)) (o1 : W.ownsRow base 53 3 (.slice A1 w.vs.length c1) w.vs.length (flat vcell w.vs))
    (o2 : W.ownsRow base 49 7 (.slice A2 w.ts.length c2) w.ts.length xs) (ht : TsRow W base xs w.ts) (o3 : W.ownsRow base 40 10 (.slice (some ⟨q, 0, none⟩) w.ml.length c3) w.ml.length (flat mcell w.ml)) (o4 : W.ownsRow base 43 2 (.slice A4 w.ch.length c4) w.ch.length (flat ccell w.ch))
    (hU : Below W.heap.size W U) (hown : w9.ownsRow base 40 10 (.slice (some ⟨q, 0, none⟩) (w.ml.length - 1) c3) (w.ml.length - 1) (flat mcell (w.ml.eraseIdx j))) (hg9 : U.grownBy w9 (some q)) :
    Box w9 g 58 #[.slice A0 w.ms.length c0, .slice A1 w.vs.length c1, .slice A2 w.ts.length c2, .slice (some ⟨q, 0, none⟩) w.ml.length c3, .slice A4 w.ch.length c4] ∧
    WdAt (w9.setCell ⟨g, 3, none⟩ (.slice (some ⟨q, 0, none⟩) (w.ml.length - 1) c3)) base g (DC.gone w j) ∧ (w9.setCell ⟨g, 3, none⟩ (.slice (some ⟨q, 0, none⟩) (w.ml.length - 1) c3)).cell? ⟨g, 3, none⟩ = some (.slice (some ⟨q, 0, none⟩) (w.ml.length - 1) c3) ∧
    Kept isWM W (w9.setCell ⟨g, 3, none⟩ (.slice (some ⟨q, 0, none⟩) (w.ml.length - 1) c3)) ∧ Below base W (w9.setCell ⟨g, 3, none⟩ (.slice (some ⟨q, 0, none⟩) (w.ml.length - 1) c3)) := by
  have q3 := own_below3 o3 hU
  have k1 : Kept isWM W U := Kept.of_below hU
  have k2 : Kept isWM U w9 := Kept.grown q3 (.inr rfl) hg9
  have hx9 : Box w9 g 58 _ := (hx.below hU hx.lt).grown hg9 (fun e => by
    obtain ⟨_, cur, hc⟩ := own_block q3 e.symm
    have := hx.below hU hx.lt
    rw [Box] at this hc
    rw [hc] at this
    injection this with this
    injection this with _ this
    exact absurd this (by decide))
  have k3 : Kept isWM w9 (w9.setCell ⟨g, 3, none⟩ (.slice (some ⟨q, 0, none⟩) (w.ml.length - 1) c3)) := Kept.set hx9 (.inl rfl) _
  have kk := (k1.trans k2).trans k3
  have nI : ¬ isWM 3 := by unfold isWM; decide
  have nP : ¬ isWM 79 := by unfold isWM; decide
  have hlen : (w.ml.eraseIdx j).length = w.ml.length - 1 := erase_len hj
  have hqb : base ≤ q := (own_block o3 (show (Value.slice (some ⟨q, 0, none⟩) w.ml.length c3).ownBlock = some q from rfl)).1
  refine ⟨hx9, ⟨A0, c0, A1, c1, A2, c2, some ⟨q, 0, none⟩, c3, A4, c4, xs, hgb, ?_, kk.own o0 nI, kk.own o1 (by unfold isWM; decide), kk.own o2 (by unfold isWM; decide), ht.kept kk nI nP, ?_, kk.own o4 (by unfold isWM; decide)⟩, ?_, kk, ?_⟩
  · show Box _ g 58 #[_, _, _, .slice (some ⟨q, 0, none⟩) (w.ml.eraseIdx j).length c3, _]
    rw [hlen]
    have := hx9.stored 3 (.slice (some ⟨q, 0, none⟩) (w.ml.length - 1) c3)
    simp at this
    exact this
  · show World.ownsRow _ base _ 10 (.slice (some ⟨q, 0, none⟩) (w.ml.eraseIdx j).length c3) (w.ml.eraseIdx j).length (flat mcell (w.ml.eraseIdx j))
    rw [hlen]
    exact own_setother hown hx9 (by decide) _
  · have := (hx9.stored 3 (.slice (some ⟨q, 0, none⟩) (w.ml.length - 1) c3)).cell 3
    simpa using this
  · have h1 : Below base W w9 := (hU.mono hbase).grown hg9 (Nat.le_trans hbase hU.size) (fun r hr => by injection hr with hr; omega)
    exact h1.setCell (p := ⟨g, 3, none⟩) hgb _
theorem below2 {W : World} (a b : Obj) : Below W.heap.size W ((W.alloc a).alloc b) := ((Below.refl _ _).alloc (Nat.le_refl _) _).alloc (by simp) _
set_option maxRecDepth 100000 in
set_option maxHeartbeats 4000000 in
theorem lift_any (base g j : Nat) (w : DC.Wd) (m : DC.Ml) (W : World) (H : WdAt W base g w) (hm : w.ml[j]? = some m) (hl : w.ml.length ≤ 1900) (hbase : base ≤ W.heap.size) :
    Calls Try.prog 35 #[.pointer (some ⟨g, 0, none⟩), .int .i64 (j : Nat)] W (LiftPost base g w m j W) := by
  have hlt := H.lt
  obtain ⟨A0, c0, A1, c1, A2, c2, A3, c3, A4, c4, xs, hgb, hx, o0, o1, o2, ht, o3, o4⟩ := H
  have hj : j < w.ml.length := (List.getElem?_eq_some_iff.1 hm).1
  obtain ⟨q, rfl, hqb, hc⟩ := own_some o3 (by omega)
  have hqlt : q < W.heap.size := by obtain ⟨_, cur, hq⟩ := own_block o3 (show (Value.slice (some ⟨q, 0, none⟩) w.ml.length c3).ownBlock = some q from rfl); exact hq.lt
  have hf := flat_get (f := mcell) (s := 10) (fun _ _ => rfl) hm
  have m0 := hc _ _ (hf 0 (by omega))
  have m1 := hc _ _ (hf 1 (by omega))
  have m2 := hc _ _ (hf 2 (by omega))
  have m3 := hc _ _ (hf 3 (by omega))
  have m4 := hc _ _ (hf 4 (by omega))
  have m5 := hc _ _ (hf 5 (by omega))
  have m6 := hc _ _ (hf 6 (by omega))
  have m7 := hc _ _ (hf 7 (by omega))
  have m8 := hc _ _ (hf 8 (by omega))
  have m9 := hc _ _ (hf 9 (by omega))
  simp only [Nat.add_zero] at m0
  have g3 := hx.five.1.2.2.2.1
  have HD := Lib.hid (fun (U : World) (hU : Below W.heap.size W U) => delete_any base q c3 w.ml.length j w.ml U (own_below3 o3 hU) (by omega) hj)
  have HM := Lib.hid (fun (U w9 : World) (hU : Below W.heap.size W U) hown hg9 => lift_mid (U := U) (w9 := w9) hbase hgb hj hx o0 o1 o2 ht o3 o4 hU hown hg9)
  have HG := Lib.hid hlt
  have HQ := Lib.hid hqlt
  have HB := Lib.hid hbase
  have e0 : IntKind.i64.wrap ((j : Int) + 1) = (j : Int) + 1 := by rw [IntKind.wrap_i64]; omega
  have e1 : (j : Int) < (w.ml.length : Int) := by omega
  have hgw : g < W.heap.size := hlt.2
  clear hx o0 o1 o2 ht o3 o4 hc hf hm hlt hbase hgb hqb
  go_enter Try.func35, Try.ntmps35
  go_wp2_with fail
  obtain ⟨U, hU⟩ : ∃ U, U = (W.alloc (.cells #[.int .i64 0, .int .i64 0, .int .u8 0, .int .i64 0, .int .i64 0, .int .i64 0, .int .i64 0, .string ⟨#[]⟩, .int .i64 0, .int .i64 0] 40)).alloc (.cells #[.int .i64 m.f, .int .i64 m.t, .int .u8 m.k, .int .i64 m.g, .int .i64 m.s, .int .i64 m.b, .int .i64 m.p, .string m.v, .int .i64 m.i, .int .i64 m.m] 40) := ⟨_, rfl⟩
  have hUb : Below W.heap.size W U := by rw [hU]; exact below2 _ _
  have hUr : Box U W.heap.size 40 #[.int .i64 0, .int .i64 0, .int .u8 0, .int .i64 0, .int .i64 0, .int .i64 0, .int .i64 0, .string ⟨#[]⟩, .int .i64 0, .int .i64 0] := by
    rw [hU]; exact (Box.new _ _ _).below ((Below.refl _ _).alloc (Nat.le_refl _) _) (by simp)
  have hUm : Box U (W.heap.size + 1) 40 (mcell m).toArray := by
    rw [hU]
    have := Box.new (W.alloc (.cells #[.int .i64 0, .int .i64 0, .int .u8 0, .int .i64 0, .int .i64 0, .int .i64 0, .int .i64 0, .string ⟨#[]⟩, .int .i64 0, .int .i64 0] 40)) 40 (mcell m).toArray
    rwa [show (W.alloc (.cells #[.int .i64 0, .int .i64 0, .int .u8 0, .int .i64 0, .int .i64 0, .int .i64 0, .int .i64 0, .string ⟨#[]⟩, .int .i64 0, .int .i64 0] 40)).heap.size = W.heap.size + 1 by simp] at this
  rw [← hU]
  clear hU
  refine (HD.out _ hUb).mono ?_
  rintro e w9 ⟨rfl, hown, hg9⟩
  have hM := HM.out U w9 hUb hown hg9
  have hr9 : Box w9 W.heap.size 40 _ := hUr.grown hg9 (by simp; omega)
  have hm9 : Box w9 (W.heap.size + 1) 40 _ := hUm.grown hg9 (by simp; omega)
  obtain ⟨⟨_, _, _, x3, _⟩, _, _, _, z3, _⟩ := hM.1.five
  have hgr : g ≠ W.heap.size := by omega
  have hgm : g ≠ W.heap.size + 1 := by omega
  have hrm : W.heap.size ≠ W.heap.size + 1 := by omega
  have hqr : (Value.slice (some ⟨q, 0, none⟩) (w.ml.length - 1) c3).ownBlock ≠ some W.heap.size := by simp [Value.ownBlock]; omega
  have hbr : base ≤ W.heap.size := HB.out
  clear HG HQ hgw hqlt m0 m1 m2 m3 m4 m5 m6 m7 m8 m9 g3 hUr hUm hUb HD HM hown hg9
  generalize W.heap.size + 1 = gm at hm9 hgm hrm ⊢
  generalize hRR : W.heap.size = gr at hr9 hgr hrm hqr hbr ⊢
  have hr10 := hr9.far (p := ⟨g, 3, none⟩) (fun e => hgr e.symm) (.slice (some ⟨q, 0, none⟩) (w.ml.length - 1) c3)
  have hm10 := hm9.far (p := ⟨g, 3, none⟩) (fun e => hgm e.symm) (.slice (some ⟨q, 0, none⟩) (w.ml.length - 1) c3)
  have HM2 := Lib.hid hM.2
  have HQR := Lib.hid hqr
  have HBR := Lib.hid hbr
  have HR := Lib.hid hr10
  have HMM := Lib.hid hm10
  clear hM hr9 hm9 hqr hbr HB hr10 hm10 hgr hgm e0 e1
  go_upto_region 3 with (fail)
  generalize w9.setCell ⟨g, 3, none⟩ (.slice (some ⟨q, 0, none⟩) (w.ml.length - 1) c3) = U9 at HM2 HR HMM ⊢
  have hS : MlS W base g (DC.gone w j) gr ⟨0, 0, 0, 0, 0, 0, 0, ⟨#[]⟩, 0, 0⟩ U9 := ⟨HM2.out.1, HR.out, fun v hv => by rw [HM2.out.2.1] at hv; injection hv with hv; subst hv; exact HQR.out, HBR.out, HM2.out.2.2.1.mono (fun e h => tk_of_wm h), HM2.out.2.2.2⟩
  have hS2 := hS.store (m' := m) (U9.setCells gr 0 (mcell m)) (below_setCells _ _ (Below.refl _ _) (Nat.le_refl _)) (fun S hs => kept_setCells hs _ _ hS.2.1) (fun q' e' cs hq hb => far_setCells hq _ _ hb) (box_setAll hS.2.1 _ rfl)
  have HS2 := Lib.hid hS2
  obtain ⟨r0, r1, r2, r3, r4, r5, r6, r7, r8, r9⟩ := HR.out.ten
  obtain ⟨m0, m1, m2, m3, m4, m5, m6, m7, m8, m9⟩ := (show Box U9 gm 40 #[.int .i64 m.f, .int .i64 m.t, .int .u8 m.k, .int .i64 m.g, .int .i64 m.s, .int .i64 m.b, .int .i64 m.p, .string m.v, .int .i64 m.i, .int .i64 m.m] from HMM.out).ten
  have f0 := HR.out.frozen 0
  have f1 := HR.out.frozen 1
  have f2 := HR.out.frozen 2
  have f3 := HR.out.frozen 3
  have f4 := HR.out.frozen 4
  have f5 := HR.out.frozen 5
  have f6 := HR.out.frozen 6
  have f7 := HR.out.frozen 7
  have f8 := HR.out.frozen 8
  have f9 := HR.out.frozen 9
  clear x3 z3 hS hS2 HM2 HQR HBR HMM HR
  go_wp2_with fail
  obtain ⟨hS2, hx2, _, _, hk2, hb2⟩ := HS2.out
  obtain ⟨d0, d1, d2, d3, d4, d5, d6, d7, d8, d9⟩ := (show Box _ gr 40 #[.int .i64 m.f, .int .i64 m.t, .int .u8 m.k, .int .i64 m.g, .int .i64 m.s, .int .i64 m.b, .int .i64 m.p, .string m.v, .int .i64 m.i, .int .i64 m.m] from hx2).ten
  simp only [World.setCells, mcell, Nat.zero_add, Nat.reduceAdd] at d0 d1 d2 d3 d4 d5 d6 d7 d8 d9 hS2 hk2 hb2
  exact bodyPost_ret (v := .agg #[.int .i64 m.f, .int .i64 m.t, .int .u8 m.k, .int .i64 m.g, .int .i64 m.s, .int .i64 m.b, .int .i64 m.p, .string m.v, .int .i64 m.i, .int .i64 m.m]) (by simp [results, Try.results35, go_sem, d0, d1, d2, d3, d4, d5, d6, d7, d8, d9]) rfl ⟨rfl, hS2, hk2, hb2⟩
end Go.Proofs.Ytiiobafcgdelmaa.PD
