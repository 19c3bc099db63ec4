/-
  Package order: places: a map of ids to where they stand. Conditions: at most 4,096; ids are ints.
  Package order: places: a map of ids to where they stand. Conditions: at most 4,096; ids are ints.
-/
import Derived.Test.YteebeiaokfenmaaGreatK01
import Derived.Maps.OwnSet
namespace Go.Proofs.YteebeiaokfenmaaGreat.KP
open Go.RowKit CP TP
open Go.Maps (Keyed IsMap Tidy int_keyed keyOf_int_mk)
open CM (Mg Cm)
open TM (Sp)
open KM (Wt Sk)
set_option linter.unusedVariables false
set_option linter.unusedSimpArgs false
set_option maxRecDepth 100000
/-- where ids stand -/
def plD (l : List Int) : DataW Unit := l.zipIdx.foldl (fun D p => D.put (.int .i64 p.1) (.lit (.int .i64 (p.2 : Nat)))) (.map [])
theorem plD_snoc (l : List Int) (x : Int) : plD (l ++ [x]) = (plD l).put (.int .i64 x) (.lit (.int .i64 (l.length : Nat))) := by
  unfold plD
  rw [List.zipIdx_append, List.foldl_append]
  simp
theorem plD_map : ∀ r : List Int, IsMap (plD r.reverse)
  | [] => Maps.isMap_empty
  | x :: r => by rw [List.reverse_cons, plD_snoc]; exact (plD_map r).put _ _
theorem key_int (x : Int) : WideAt.IsKeyLit (.int .i64 x) := by unfold WideAt.IsKeyLit; trivial
theorem plD_has_rev (x : Int) : ∀ r : List Int, Maps.has (plD r.reverse) (.int .i64 x) = decide (x ∈ r)
  | [] => by simp [plD, Maps.has]
  | y :: r => by
    rw [List.reverse_cons, plD_snoc]
    by_cases h : x = y
    · subst h
      rw [Maps.has_put_same (plD_map r) (key_int _)]
      simp
    · rw [Maps.has_put_other (fun e => h (by injection e)), plD_has_rev x r]
      simp [h]
theorem plD_has (l : List Int) (x : Int) : Maps.has (plD l) (.int .i64 x) = decide (x ∈ l) := by
  have := plD_has_rev x l.reverse
  rw [List.reverse_reverse] at this
  rw [this]
  simp
theorem plD_at_rev (x : Int) (z : DataW Unit) : ∀ (r : List Int), r.Nodup → ∀ k, r.reverse[k]? = some x → (plD r.reverse).atKey (.int .i64 x) z = .lit (.int .i64 (k : Nat))
  | [], _, k, h => by simp at h
  | y :: r, hn, k, h => by
    rw [List.nodup_cons] at hn
    rw [List.reverse_cons] at h ⊢
    rw [plD_snoc]
    by_cases hk : k < r.reverse.length
    · rw [List.getElem?_append_left hk] at h
      have hm : x ∈ r := List.mem_reverse.1 (List.mem_of_getElem? h)
      rw [Maps.atKey_put_other (fun e => hn.1 (by injection e with _ e; rw [← e]; exact hm))]
      exact plD_at_rev x z r hn.2 k h
    · have hkl := (List.getElem?_eq_some_iff.1 h).1
      rw [List.length_append, List.length_singleton] at hkl
      obtain rfl : k = r.reverse.length := by omega
      rw [List.getElem?_append_right (Nat.le_refl _)] at h
      simp at h
      subst h
      exact Maps.atKey_put_same (by have := plD_map r; exact this) (key_int _) _ _
theorem plD_at {l : List Int} (hn : l.Nodup) {k : Nat} {x : Int} (h : l[k]? = some x) (z : DataW Unit) : (plD l).atKey (.int .i64 x) z = .lit (.int .i64 (k : Nat)) := by
  have := plD_at_rev x z l.reverse ((List.Perm.nodup_iff (List.reverse_perm l)).2 hn) k (by rwa [List.reverse_reverse])
  rwa [List.reverse_reverse] at this
/-- a map of ids to where they stand -/
def MpIs (w : World) (v : Value) (l : List Int) : Prop := ∃ b, v = .map (some b) ∧ w.ownsMap Tryz.prog 3 (plainElem Tryz.prog 3) b l.length (plD l)
theorem ownsMap_below {w w' : World} {b n : Nat} {D : DataW Unit} (h : w.ownsMap Tryz.prog 3 (plainElem Tryz.prog 3) b n D) (hb : Below w.heap.size w w') : w'.ownsMap Tryz.prog 3 (plainElem Tryz.prog 3) b n D := by
  have hl := h.lt
  obtain ⟨es, clock, h1, h2⟩ := h
  exact ⟨es, clock, (hb.block b hl).trans h1, h2⟩
theorem MpIs.below {w w' : World} {v : Value} {l : List Int} (h : MpIs w v l) (hb : Below w.heap.size w w') : MpIs w' v l := by
  obtain ⟨b, e, h1⟩ := h
  exact ⟨b, e, ownsMap_below h1 hb⟩
theorem lawI : Keyed Tryz.prog 3 := int_keyed Tryz.underlying3
theorem zeroI (w : World) : (zeroValue 3).run Tryz.prog w = .ok (.int .i64 0) w := by kernel_rfl
theorem wfI {x : Int} (h : i64In x) : (Lit.int .i64 x).wf = true := WalkArith.wf_i64 h
theorem makeMap_n (n : Int) (w : World) : (Instr.makeMap 72 (some (.int .i64 n))).run Tryz.prog w = .ok (.map (some w.heap.size)) (w.alloc (.map #[] 0)) := by
  simp [Instr.makeMap, run_underlying Tryz.underlying72, asInt, Result.andThen]
  try rfl
/-- one more of them -/
structure PlI (w : World) (b : Nat) (l : List Int) (k : Nat) (wr : World) : Prop where
  bl : Below w.heap.size w wr
  bb : w.heap.size ≤ b
  ow : wr.ownsMap Tryz.prog 3 (plainElem Tryz.prog 3) b k (plD (l.take k))
theorem PlI.below {w wr w' : World} {b k : Nat} {l : List Int} (h : PlI w b l k wr) (hb : Below wr.heap.size wr w') : PlI w b l k w' := ⟨bmore h.bl hb (Nat.le_refl _), h.bb, ownsMap_below h.ow hb⟩
theorem PlI.next {w wr w' : World} {b k : Nat} {l : List Int} {x : Int} (h : PlI w b l k wr) (hx : l[k]? = some x) (h1 : w'.ownsMap Tryz.prog 3 (plainElem Tryz.prog 3) b (k + 1) ((plD (l.take k)).put (.int .i64 x) (.lit (.int .i64 (k : Nat))))) (hg : wr.grownBy w' (some b)) : PlI w b l (k + 1) w' := by
  refine ⟨h.bl.grown hg h.bl.size (fun j hj => by injection hj with hj; rw [← hj]; exact h.bb), h.bb, ?_⟩
  have hk := (List.getElem?_eq_some_iff.1 hx).1
  rw [List.take_add_one, hx]
  show w'.ownsMap _ _ _ _ _ (plD (l.take k ++ [x]))
  rw [plD_snoc, List.length_take, Nat.min_eq_left (by omega)]
  exact h1
end Go.Proofs.YteebeiaokfenmaaGreat.KP

namespace Go.Proofs.YteebeiaokfenmaaGreat.KP
open Go.RowKit CP TP
open Go.Maps (Keyed IsMap Tidy int_keyed keyOf_int_mk)
open CM (Mg Cm)
open TM (Sp)
open KM (Wt Sk)
set_option linter.unusedVariables false
set_option linter.unusedSimpArgs false
set_option maxRecDepth 100000

set_option maxHeartbeats 2000000 in
theorem ptid_any (i : Int) (A : Option Addr) (m c : Nat) (tp : Int) (key body : ByteArray) (t : Int) (f : Bool) (w : World) : Calls Tryz.prog 61 #[.agg #[.int .i64 i, .slice A m c, .int .i64 tp, .string key, .string body, .int .i64 t, .bool f]] w fun e w' => e = .returned (.int .i64 i) ∧ Below w.heap.size w w' := by
  have HB := Lib.hid (show Below w.heap.size w (w.alloc (.cells #[.int .i64 i, .slice A m c, .int .i64 tp, .string key, .string body, .int .i64 t, .bool f] 78)) from (Below.refl _ _).alloc (Nat.le_refl _) _)
  have Y := Lib.hid (Box.new w 78 #[.int .i64 i, .slice A m c, .int .i64 tp, .string key, .string body, .int .i64 t, .bool f])
  go_enter Tryz.func61, Tryz.ntmps61
  go_upto_region 1 with (fail)
  generalize w.alloc (.cells #[.int .i64 i, .slice A m c, .int .i64 tp, .string key, .string body, .int .i64 t, .bool f] 78) = w1 at HB Y ⊢
  have y0 := Y.out.cell 0
  simp at y0
  go_wp2_with fail
  go_ret
  exact ⟨rfl, HB.out⟩
set_option maxHeartbeats 4000000 in
theorem pplW_any (A : Option Addr) (n c : Nat) (l : List Wt) (w : World) (h : KR KW w A n c l) (hn : n ≤ 4096) (hi : ∀ x ∈ l, i64In x.m.id) :
    Calls Tryz.prog 60 #[.slice A n c, .func (.func 61) #[] #[]] w fun e w' => ∃ v, e = .returned v ∧ MpIs w' v (l.map fun x => x.m.id) ∧ Below w.heap.size w w' := by
  have hmm := makeMap_n
  have HL := Lib.hid (show l.length = n from h.len)
  have H := Lib.hid h
  have HI := Lib.hid hi
  obtain ⟨b, hb⟩ : ∃ b, w.heap.size = b := ⟨_, rfl⟩
  obtain ⟨W1, hW1⟩ : ∃ W1, W1 = w.alloc (.map #[] 0) := ⟨_, rfl⟩
  have HP := Lib.hid (show PlI w b (l.map fun x => x.m.id) 0 W1 from by
    refine ⟨by rw [hW1]; exact (Below.refl _ _).alloc (Nat.le_refl _) _, by omega, ?_⟩
    rw [hW1, ← hb]
    exact World.ownsMap_made _ _ _ _)
  clear h hi
  go_enter Tryz.func60, Tryz.ntmps60
  go_upto_region 2 with (fail)
  rw [← hW1]
  clear hW1 hmm
  try simp only [hb]
  clear hb
  go_wp2_with fail
  go_loopw [13] (fun i wr => ∃ k : Nat, k ≤ n ∧ i = .int .i64 k ∧ Hid (PlI w b (l.map fun x => x.m.id) k wr)) (fun i _ => n - (intOf i).toNat)
  case atStart => exact ⟨0, by omega, rfl, HP⟩
  case round =>
    clear HP
    obtain ⟨k, hk, rfl, HP⟩ := hrel
    by_cases hlt : k < n
    · obtain ⟨a, ha⟩ : ∃ a, l[k]? = some a := ⟨_, List.getElem?_eq_getElem (by have := HL.out; omega)⟩
      have HA := Lib.hid (show (l.map fun x => x.m.id)[k]? = some a.m.id by rw [List.getElem?_map, ha]; rfl)
      have HF := Lib.hid (HI.out a (List.mem_of_getElem? ha))
      obtain ⟨bl, o, B, d, rfl, _, _, x0, x1, x2, x3, x4, x5, x6, _⟩ := (show ∃ bl o B d, A = some ⟨bl, o, none⟩ ∧ k < n ∧ bl < wr.heap.size ∧ wr.cell? ⟨bl, o + k * 7, none⟩ = some (.int .i64 a.m.id) ∧ wr.cell? ⟨bl, o + k * 7 + 1, none⟩ = some (.slice B a.m.gs.length d) ∧ wr.cell? ⟨bl, o + k * 7 + 2, none⟩ = some (.int .i64 a.m.tp) ∧ wr.cell? ⟨bl, o + k * 7 + 3, none⟩ = some (.string a.m.key) ∧ wr.cell? ⟨bl, o + k * 7 + 4, none⟩ = some (.string a.m.body) ∧ wr.cell? ⟨bl, o + k * 7 + 5, none⟩ = some (.int .i64 a.t) ∧ wr.cell? ⟨bl, o + k * 7 + 6, none⟩ = some (.bool a.f) ∧ True from by
        obtain ⟨bl, o, B, d, h1, h2, h3, ⟨q0, q1, q2, q3, q4, q5, q6⟩, _⟩ := wts_at (H.out.below HP.out.bl) ha
        exact ⟨bl, o, B, d, h1, h2, h3, q0, q1, q2, q3, q4, q5, q6, trivial⟩)
      clear ha
      have hk0 : (0 : Int) ≤ (k : Int) := by omega
      have hkn : (k : Int) < (n : Int) := by omega
      have hk63 : (Lit.int .i64 (k : Nat)).wf = true := wfI (by unfold i64In; omega)
      have HB := Lib.hid (show Below wr.heap.size wr (wr.alloc (.cells #[.int .i64 a.m.id, .slice B a.m.gs.length d, .int .i64 a.m.tp, .string a.m.key, .string a.m.body, .int .i64 a.t, .bool a.f] 78)) from (Below.refl _ _).alloc (Nat.le_refl _) _)
      have Y := Lib.hid (Box.new wr 78 #[.int .i64 a.m.id, .slice B a.m.gs.length d, .int .i64 a.m.tp, .string a.m.key, .string a.m.body, .int .i64 a.t, .bool a.f])
      go_upto_region 5 with (fail)
      generalize wr.alloc (.cells #[.int .i64 a.m.id, .slice B a.m.gs.length d, .int .i64 a.m.tp, .string a.m.key, .string a.m.body, .int .i64 a.t, .bool a.f] 78) = w3 at HB Y ⊢
      generalize wr.heap.size = g3 at Y ⊢
      obtain ⟨y0, y1, y2, y3, y4, y5, y6⟩ := box_wt Y.out
      go_wp2_with fail
      refine (ptid_any _ _ _ _ _ _ _ _ _ w3).mono ?_
      rintro e w4 ⟨rfl, hb4⟩
      have HP4 := Lib.hid (HP.out.below (bmore HB.out hb4 (Nat.le_refl _)))
      clear hb4 x0 x1 x2 x3 x4 x5 x6 y0 y1 y2 y3 y4 y5 y6
      go_wp2_with (at_mapUpdate; refine wpList_mapUpdate_own _ rfl _ _ _ 72 rfl 3 3 lawI Tryz.underlying72 _ b k _ rfl HP4.out.ow (by unfold maxLen; omega) _ _ _ rfl rfl (keyOf_int_mk Tryz.underlying3 (wfI HF.out)) _ [] (plainElem_int Tryz.underlying3 hk63) ?_; intro w5 hown5 hg5; have HP5 := Lib.hid (HP4.out.next HA.out hown5 hg5); clear hown5 hg5)
      go_roundw
      case rel => exact ⟨k + 1, by omega, by go_num, HP5⟩
      case measure => simp [intOf]; omega
    · obtain rfl : n = k := by omega
      have HE := Lib.hid (show MpIs wr (.map (some b)) (l.map fun x => x.m.id) from ⟨b, rfl, by have h1 := HP.out.ow; rw [List.take_of_length_le (by rw [List.length_map]; have := HL.out; omega)] at h1; rw [List.length_map, HL.out]; exact h1⟩)
      go_wp2_with fail
      go_ret
      exact ⟨_, rfl, HE.out, HP.out.bl⟩
end Go.Proofs.YteebeiaokfenmaaGreat.KP
