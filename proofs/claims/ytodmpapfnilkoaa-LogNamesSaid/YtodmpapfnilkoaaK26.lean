/-
  What the document's own helpers for lists of texts do (towncrierref01: SameTexts, Great). Conditions: the slices read as texts.
  The document's own SameGroup, TwinGroup (towncrierref06). Conditions: the lists read as ints; at most 2,000 of each.
  An argument that is a group, as the walks of layer 13 read it. No walk.
-/
import Derived.Test.YtodmpapfnilkoaaK02
import Derived.Test.YtodmpapfnilkoaaK01
import Derived.Laws.Small
import Derived.Lib.MinMax
import Derived.Test.YtodmpapfnilkoaaK03
import Derived.Deep.RegionLaw
import Derived.Deep.DeepCutAuto
import Derived.Deep.QuietTactic
import Derived.BigQuiet
import Derived.Shelf.RegionOpenPlain
import Derived.Test.YtodmpapfnilkoaaK25
namespace Go.Proofs.Ytodmpapfnilkoaa
open Go.RowKit
set_option linter.unusedVariables false
set_option maxRecDepth 100000

set_option maxHeartbeats 1000000 in
theorem same_texts (A B : Option Addr) (n ca cb : Nat) (ls : List (List UInt8)) (w : World) (h1 : Rd w A n (sc ls)) (h2 : Rd w B n (sc ls)) (hm : n ≤ 9223372036854775807) :
    Calls Try.prog 23 #[.slice A n ca, .slice B n cb] w fun e w' => e = .returned (.bool true) ∧ ∃ q, w' = w.drewN q := by
  have hl : ls.length = n := by have := h1.1; rwa [sc_length] at this
  have HL := Lib.hid hl; clear hl
  have hne : ((n : Int) != (n : Int)) = false := by simp
  go_enter Try.func23, Try.ntmps23
  go_wp2
  go_loopw [5] (fun i wr => ∃ k q : Nat, k ≤ n ∧ i = .int .i64 k ∧ wr = w.drewN q) (fun i _ => n - (intOf i).toNat)
  case atStart => exact ⟨0, 0, by omega, rfl, rfl⟩
  case round =>
    obtain ⟨k, q, hk, rfl, rfl⟩ := hrel
    by_cases hlt : k < n
    · obtain ⟨ad1, u1, rfl, _, hu1, hcell1⟩ := h1.at_ hlt
      obtain ⟨ad2, u2, rfl, _, hu2, hcell2⟩ := h2.at_ hlt
      have hkz : k < ls.length := by have := HL.out; omega
      rw [sc_get ls k hkz] at hu1 hu2
      injection hu1 with hu1
      injection hu2 with hu2
      subst hu1
      subst hu2
      obtain ⟨z, hz⟩ : ∃ z, z = (⟨ls[k].toArray⟩ : ByteArray) := ⟨_, rfl⟩
      rw [← hz] at hcell1 hcell2
      have HZ := Lib.hid hz; clear hz
      have hk0 : (0 : Int) ≤ (k : Int) := by omega
      have hkn : (k : Int) < (n : Int) := by omega
      go_wp2_with fail
      go_quiet (fail)
      go_wp2_with fail
      go_roundw
      case rel => exact ⟨k + 1, q + nq, by omega, by go_num, by simp⟩
      case measure => simp [intOf]; omega
    · go_wp2
      go_ret
      exact ⟨rfl, q, rfl⟩

/-- what is said of the greatness of texts -/
def TGreatPost (w : World) (n : Nat) (e : Ending) (w' : World) : Prop := ∃ b : Bool, e = .returned (.bool b) ∧ w = w' ∧ (b = false → n ≤ 1000)

set_option maxRecDepth 100000 in
set_option maxHeartbeats 1000000 in
theorem tgreat_any (A : Option Addr) (n c : Nat) (ls : List (List UInt8)) (w : World) (hr : Rd w A n (sc ls)) (hs : ∀ t ∈ ls, t.length ≤ 9223372036854775807) (hm : n ≤ 9223372036854775807) :
    Calls Try.prog 16 #[.slice A n c] w (TGreatPost w n) := by
  have hl : ls.length = n := by have := hr.1; rwa [sc_length] at this
  have HL := Lib.hid hl; clear hl
  have HSm := Lib.hid hs; clear hs
  go_enter Try.func16, Try.ntmps16
  go_wp2
  go_loop [3, 4] (fun s i => ∃ k m : Nat, k ≤ n ∧ k ≤ 2000 ∧ m ≤ 100000 * k ∧ i = .int .i64 k ∧ s = .int .i64 m) (fun _ i => 2000 - (intOf i).toNat)
  case atStart => exact ⟨0, 0, by omega, by omega, by omega, rfl, rfl⟩
  case round =>
    obtain ⟨k, m, hk, hk2, hmk, rfl, rfl⟩ := hrel
    by_cases hlt : k < n ∧ k < 2000
    · obtain ⟨hlt, hlt2⟩ := hlt
      have hkl : k < ls.length := by have := HL.out; omega
      obtain ⟨ad, u, rfl, _, hu, hcell⟩ := hr.at_ hlt
      rw [sc_get ls k hkl] at hu
      injection hu with hu
      subst hu
      have hsm := HSm.out _ (List.getElem_mem hkl)
      obtain ⟨s, hs⟩ : ∃ s, s = ls[k] := ⟨_, rfl⟩
      rw [← hs] at hcell hsm
      clear hs
      go_wp2
      go_round
      case rel => exact ⟨k + 1, m + min s.length 100000, by omega, by omega, by omega, by go_num, by congr 1; omega⟩
      case measure => simp [intOf]; omega
    · by_cases h1000 : n ≤ 1000
      · have hkn : ¬ k < n := by omega
        clear hlt
        by_cases hmm : m ≤ 100000
        · go_wp2
          go_ret
          exact ⟨_, rfl, rfl, fun _ => h1000⟩
        · go_wp2
          go_ret
          exact ⟨_, rfl, rfl, fun _ => h1000⟩
      · by_cases hkn : k < n
        · have hk3 : ¬ k < 2000 := by omega
          clear hlt
          go_wp2
          go_ret
          exact ⟨true, rfl, rfl, fun h => by cases h⟩
        · clear hlt
          go_wp2
          go_ret
          exact ⟨true, rfl, rfl, fun h => by cases h⟩
end Go.Proofs.Ytodmpapfnilkoaa

namespace Go.Proofs.Ytodmpapfnilkoaa.LP
open Go.RowKit CP
open CM (Cm Mg)
set_option linter.unusedVariables false
set_option linter.unusedSimpArgs false
set_option maxRecDepth 100000

theorem info_ig : (Try.prog.info? 3).map (fun i => (i.zero, i.size, i.bytes)) = some (some (.int .i64 0), 1, 8) := by kernel_rfl
set_option maxHeartbeats 1000000 in
theorem same06 (A B : Option Addr) (n ca cb : Nat) (zs : List Int) (w : World) (h1 : Rd w A n (ic zs)) (h2 : Rd w B n (ic zs)) (hm : n ≤ 9223372036854775807) :
    Calls Try.prog 46 #[.slice A n ca, .slice B n cb] w fun e w' => e = .returned (.bool true) ∧ ∃ q, w' = w.drewN q := by
  have hl : zs.length = n := by have := h1.1; rwa [ic_length] at this
  have HL := Lib.hid hl; clear hl
  have hne : ((n : Int) != (n : Int)) = false := by simp
  go_enter Try.func46, Try.ntmps46
  go_wp2
  go_loopw [5] (fun i wr => ∃ k q : Nat, k ≤ n ∧ i = .int .i64 k ∧ wr = w.drewN q) (fun i _ => n - (intOf i).toNat)
  case atStart => exact ⟨0, 0, by omega, rfl, rfl⟩
  case round =>
    obtain ⟨k, q, hk, rfl, rfl⟩ := hrel
    by_cases hlt : k < n
    · obtain ⟨ad1, u1, rfl, _, hu1, hcell1⟩ := h1.at_ hlt
      obtain ⟨ad2, u2, rfl, _, hu2, hcell2⟩ := h2.at_ hlt
      have hkz : k < zs.length := by have := HL.out; omega
      rw [ic_get zs k hkz] at hu1 hu2
      injection hu1 with hu1
      injection hu2 with hu2
      subst hu1
      subst hu2
      obtain ⟨z, hz⟩ : ∃ z, z = zs[k] := ⟨_, rfl⟩
      rw [← hz] at hcell1 hcell2
      have HZ := Lib.hid hz; clear hz
      have hk0 : (0 : Int) ≤ (k : Int) := by omega
      have hkn : (k : Int) < (n : Int) := by omega
      have hbz : (z != z) = false := by simp
      go_wp2_with fail
      go_quiet (fail)
      go_wp2_with fail
      go_roundw
      case rel => exact ⟨k + 1, q + nq, by omega, by go_num, by simp⟩
      case measure => simp [intOf]; omega
    · go_wp2
      go_ret
      exact ⟨rfl, q, rfl⟩
/-- a group in memory -/
def GpIs (w : World) (v : Value) (ros ms : List Int) : Prop := ∃ A c B d, v = .agg #[.slice A ros.length c, .slice B ms.length d] ∧ RowIs w A c ros ∧ RowIs w B d ms
theorem GpIs.below {w w' : World} {v : Value} {ros ms : List Int} (h : GpIs w v ros ms) (hb : Below w.heap.size w w') : GpIs w' v ros ms := by
  obtain ⟨A, c, B, d, e, h1, h2⟩ := h
  exact ⟨A, c, B, d, e, h1.below hb, h2.below hb⟩
set_option maxHeartbeats 2000000 in
theorem sameGroup_any (v v' : Value) (ros ms : List Int) (w : World) (h1 : GpIs w v ros ms) (h2 : GpIs w v' ros ms) :
    Calls Try.prog 24 #[v, v'] w (BoolIs true w) := by
  obtain ⟨A, c, B, d, rfl, a1, a2⟩ := h1
  obtain ⟨A', c', B', d', rfl, b1, b2⟩ := h2
  have C1 := Lib.hid (fun W (hb : Below w.heap.size w W) => (same06 A A' ros.length c c' ros W (a1.below hb).1 (b1.below hb).1 (by have := a1.2.1; have := a1.2.2; unfold maxLen at this; omega)).mono (fun e w' (k : _ ∧ _) => show BoolIs true W e w' from ⟨k.1, by obtain ⟨q, hq⟩ := k.2; rw [hq]; exact drewN_below _ _⟩))
  have C2 := Lib.hid (fun W (hb : Below w.heap.size w W) => (same06 B B' ms.length d d' ms W (a2.below hb).1 (b2.below hb).1 (by have := a2.2.1; have := a2.2.2; unfold maxLen at this; omega)).mono (fun e w' (k : _ ∧ _) => show BoolIs true W e w' from ⟨k.1, by obtain ⟨q, hq⟩ := k.2; rw [hq]; exact drewN_below _ _⟩))
  have HX : Hid (Box ((w.alloc (.cells #[.slice A ros.length c, .slice B ms.length d] 33)).alloc (.cells #[.slice A' ros.length c', .slice B' ms.length d'] 33)) w.heap.size 33 #[.slice A ros.length c, .slice B ms.length d]) := Lib.hid ((Box.new _ _ _).alloc _)
  have HY : Hid (Box ((w.alloc (.cells #[.slice A ros.length c, .slice B ms.length d] 33)).alloc (.cells #[.slice A' ros.length c', .slice B' ms.length d'] 33)) (w.heap.size + 1) 33 #[.slice A' ros.length c', .slice B' ms.length d']) := Lib.hid (Box.new_at _ (by simp))
  have HB : Hid (Below w.heap.size w ((w.alloc (.cells #[.slice A ros.length c, .slice B ms.length d] 33)).alloc (.cells #[.slice A' ros.length c', .slice B' ms.length d'] 33))) := Lib.hid (((Below.refl _ _).alloc (Nat.le_refl _) _).alloc (by simp) _)
  clear a1 a2 b1 b2
  go_enter Try.func24, Try.ntmps24
  go_upto_region 1 with (fail)
  generalize (w.alloc (.cells #[.slice A ros.length c, .slice B ms.length d] 33)).alloc (.cells #[.slice A' ros.length c', .slice B' ms.length d'] 33) = w1 at HX HY HB ⊢
  have x0 := HX.out.cell 0
  have y0 := HY.out.cell 0
  simp at x0 y0
  go_wp2_with fail
  refine (C1.out _ HB.out).mono ?_
  rintro e w2 ⟨rfl, hb⟩
  clear x0 y0
  have x1 := (HX.out.below hb HX.out.lt).cell 1
  have y1 := (HY.out.below hb HY.out.lt).cell 1
  simp at x1 y1
  replace HB := Lib.hid (bmore HB.out hb (Nat.le_refl _))
  clear hb C1 HX HY
  go_wp2_with fail
  refine (C2.out _ HB.out).mono ?_
  rintro e w3 ⟨rfl, hb⟩
  replace HB := Lib.hid (bmore HB.out hb (Nat.le_refl _))
  clear hb C2
  go_wp2_with fail
  go_ret
  exact ⟨rfl, HB.out⟩

/-- append of ints onto nil, as one step of a region -/
theorem step_nil {P : Program} {ops : Array Oper} {o : Oper} {a : Act} {w : World} {K : Act → World → Prop} {Q : Exit → Act → World → Prop} {E : Prop} (hgd : o.guard = none) (so xo : Operand) (t : TypeId)
    (ho : o.op = .call { callee := .builtin .append, args := #[so, xo], argTypes := #[t, t] })
    (base : Nat) (e : TypeId) (i : TypeInfo) (z : Value) (bytes : Nat) (ht : P.underlying t = some (.slice e)) (hi : P.info? e = some i) (hz : i.zero = some z) (hsize : i.size = 1) (hby : i.bytes = bytes) (hzs : z.cells.size = 1)
    (hs : a.eval so = .slice none 0 0) (A : Option Addr) (m c : Nat) (news : List Value) (hx : a.eval xo = .slice A m c) (hr : Rd w A m news) (h1 : ∀ u ∈ news, u.oneCell' = true) (h63 : m ≤ maxLen) (hbytes : m * bytes ≤ 140737488355328) (hbase : base ≤ w.heap.size)
    (h : ∀ A' c' w', w'.ownsRow base e 1 (.slice A' m c') m news → Below w.heap.size w w' → m ≤ c' → c' ≤ maxLen → K (a.put o.dst (.slice A' m c')) w') :
    if Region.wanted o (yielded ops a.tmps) = true then Oper.wp P o a w K Q else E := by
  have hw : Region.wanted o (yielded ops a.tmps) = true := by simp [Region.wanted, hgd]
  rw [if_pos hw]
  obtain ⟨v', w', hrun, h2, h3, h4⟩ := run_append_rd (P := P) w base t o.type e i z bytes ht hi hz hsize hby hzs (.slice none 0 0) 0 [] (World.ownsRow_nil _ _ _ _) A m c news hr h1 (by simpa using h63) (by simpa using hbytes) hbase
  simp only [Nat.zero_add, List.nil_append] at h2
  obtain ⟨A', c', rfl, k1, k2⟩ := own_form h2
  unfold Oper.wp execOp
  simp only [ho, resolve, invoke, builtin, Sem.run_bind, Sem.run_pure, Result.andThen_ok, List.map_toArray, List.map_cons, List.map_nil, hs, hx, hrun]
  exact h A' c' w' h2 (below_of_grown h3 (by simp [Value.ownBlock])) k1 k2
/-- the two lists are there anew, the answer's variable lies as it lay -/
def TwR (w u : World) (ros ms : List Int) (A : Option Addr) (c : Nat) (B : Option Addr) (d : Nat) : Prop :=
  Below w.heap.size w u ∧ Box u (w.heap.size + 1) 33 #[.slice none 0 0, .slice none 0 0] ∧ u.ownsRow (w.heap.size + 1 + 1) 3 1 (.slice A ros.length c) ros.length (ic ros) ∧ u.ownsRow (w.heap.size + 1 + 1) 3 1 (.slice B ms.length d) ms.length (ic ms) ∧ ros.length ≤ c ∧ c ≤ maxLen ∧ ms.length ≤ d ∧ d ≤ maxLen
theorem twR_end {w u : World} {ros ms : List Int} {A : Option Addr} {c : Nat} {B : Option Addr} {d : Nat} (h : TwR w u ros ms A c B d) :
    Box ((u.setCell ⟨w.heap.size + 1, 0, none⟩ (.slice A ros.length c)).setCell ⟨w.heap.size + 1, 1, none⟩ (.slice B ms.length d)) (w.heap.size + 1) 33 #[.slice A ros.length c, .slice B ms.length d] ∧
    GpIs ((u.setCell ⟨w.heap.size + 1, 0, none⟩ (.slice A ros.length c)).setCell ⟨w.heap.size + 1, 1, none⟩ (.slice B ms.length d)) (.agg #[.slice A ros.length c, .slice B ms.length d]) ros ms ∧
    Below w.heap.size w ((u.setCell ⟨w.heap.size + 1, 0, none⟩ (.slice A ros.length c)).setCell ⟨w.heap.size + 1, 1, none⟩ (.slice B ms.length d)) := by
  obtain ⟨h1, h2, h3, h4, h5, h6, h7, h8⟩ := h
  have st : ∀ {L : List Int} {X : Option Addr} {y : Nat}, u.ownsRow (w.heap.size + 1 + 1) 3 1 (.slice X L.length y) L.length (ic L) → ((u.setCell ⟨w.heap.size + 1, 0, none⟩ (.slice A ros.length c)).setCell ⟨w.heap.size + 1, 1, none⟩ (.slice B ms.length d)).ownsRow (w.heap.size + 1 + 1) 3 1 (.slice X L.length y) L.length (ic L) := fun h =>
    ownsRow_setCell_below (ownsRow_setCell_below h (a := ⟨w.heap.size + 1, 0, none⟩) (by show w.heap.size + 1 < _; omega) _) (a := ⟨w.heap.size + 1, 1, none⟩) (by show w.heap.size + 1 < _; omega) _
  refine ⟨by simpa using (h2.stored 0 (.slice A ros.length c)).stored 1 (.slice B ms.length d), ⟨A, c, B, d, rfl, ⟨Rd.of_own (st h3), h5, h6⟩, ⟨Rd.of_own (st h4), h7, h8⟩⟩, ?_⟩
  exact (h1.setCell (p := ⟨w.heap.size + 1, 0, none⟩) (by show w.heap.size ≤ w.heap.size + 1; omega) _).setCell (p := ⟨w.heap.size + 1, 1, none⟩) (by show w.heap.size ≤ w.heap.size + 1; omega) _
set_option maxHeartbeats 8000000 in
theorem twinGroup_any (v : Value) (ros ms : List Int) (w : World) (h : GpIs w v ros ms) (f1 : ros.length ≤ 2000) (f2 : ms.length ≤ 2000) :
    Calls Try.prog 17 #[v] w fun e w' => ∃ v', e = .returned v' ∧ GpIs w' v' ros ms ∧ Below w.heap.size w w' := by
  obtain ⟨A, c, B, d, rfl, a1, a2⟩ := h
  obtain ⟨i0, hi, hz0, hz1, hz2⟩ := info_parts info_ig
  have HX : Hid (Box ((w.alloc (.cells #[.slice A ros.length c, .slice B ms.length d] 33)).alloc (.cells #[.slice none 0 0, .slice none 0 0] 33)) w.heap.size 33 #[.slice A ros.length c, .slice B ms.length d]) := Lib.hid ((Box.new _ _ _).alloc _)
  have HY : Hid (Box ((w.alloc (.cells #[.slice A ros.length c, .slice B ms.length d] 33)).alloc (.cells #[.slice none 0 0, .slice none 0 0] 33)) (w.heap.size + 1) 33 #[.slice none 0 0, .slice none 0 0]) := Lib.hid (Box.new_at _ (by simp))
  have HB : Hid (Below w.heap.size w ((w.alloc (.cells #[.slice A ros.length c, .slice B ms.length d] 33)).alloc (.cells #[.slice none 0 0, .slice none 0 0] 33))) := Lib.hid (((Below.refl _ _).alloc (Nat.le_refl _) _).alloc (by simp) _)
  have HA1 := Lib.hid a1.1
  have HA2 := Lib.hid a2.1
  clear a1 a2
  go_enter Try.func17, Try.ntmps17
  go_upto_region 1 with (fail)
  generalize (w.alloc (.cells #[.slice A ros.length c, .slice B ms.length d] 33)).alloc (.cells #[.slice none 0 0, .slice none 0 0] 33) = w1 at HX HY HB ⊢
  have x0 := HX.out.cell 0
  have x1 := HX.out.cell 1
  have y0 := HY.out.cell 0
  have y1 := HY.out.cell 1
  have z0 := HY.out.frozen 0
  have z1 := HY.out.frozen 1
  simp at x0 x1 y0 y1
  have hsz : w.heap.size + 1 + 1 ≤ w1.heap.size := HY.out.lt
  have hA := (HA1.out.below HB.out).drew
  have hB := (HA2.out.below HB.out).drew
  have HA := Lib.hid hA
  have HBB := Lib.hid hB
  clear hA hB
  have mixed : Try.prog.follows Departure.mixedOrders = true := by kernel_rfl
  go_region_law_o (first
    | (refine step_nil rfl (.const (.slice none 0 0)) (.tmp 4) 25 rfl (w.heap.size + 1 + 1) 3 i0 (.int .i64 0) 8 Try.underlying25 hi hz0 hz1 hz2 rfl (by simp [Act.eval, Act.put]) A ros.length c (ic ros) (by simp [Act.eval, Act.put]) HA.out (ic_one _) (by unfold maxLen; omega) (by omega) hsz ?_
       intro A1 c1 u1 oA bA kA1 kA2
       have gA : Below w1.heap.size w1 u1 := ((Below.refl _ _).drew).trans bA
       have x0 := (HX.out.below gA HX.out.lt).cell 0
       have x1 := (HX.out.below gA HX.out.lt).cell 1
       have y0 := (HY.out.below gA HY.out.lt).cell 0
       have y1 := (HY.out.below gA HY.out.lt).cell 1
       have z0 := (HY.out.below gA HY.out.lt).frozen 0
       have z1 := (HY.out.below gA HY.out.lt).frozen 1
       simp at x0 x1 y0 y1)
    | (refine step_nil rfl (.const (.slice none 0 0)) (.tmp 7) 25 rfl (w.heap.size + 1 + 1) 3 i0 (.int .i64 0) 8 Try.underlying25 hi hz0 hz1 hz2 rfl (by simp [Act.eval, Act.put]) B ms.length d (ic ms) (by simp [Act.eval, Act.put]) HBB.out (ic_one _) (by unfold maxLen; omega) (by omega) hsz ?_
       intro B1 d1 u2 oB bB kB1 kB2
       have gB : Below w1.heap.size w1 u2 := ((Below.refl _ _).drew).trans bB
       have x0 := (HX.out.below gB HX.out.lt).cell 0
       have x1 := (HX.out.below gB HX.out.lt).cell 1
       have y0 := (HY.out.below gB HY.out.lt).cell 0
       have y1 := (HY.out.below gB HY.out.lt).cell 1
       have z0 := (HY.out.below gB HY.out.lt).frozen 0
       have z1 := (HY.out.below gB HY.out.lt).frozen 1
       simp at x0 x1 y0 y1)
    | (refine step_nil rfl (.const (.slice none 0 0)) (.tmp 4) 25 rfl (w.heap.size + 1 + 1) 3 i0 (.int .i64 0) 8 Try.underlying25 hi hz0 hz1 hz2 rfl (by simp [Act.eval, Act.put]) A ros.length c (ic ros) (by simp [Act.eval, Act.put]) (HA.out.below bB) (ic_one _) (by unfold maxLen; omega) (by omega) (Nat.le_trans hsz gB.size) ?_
       intro A1 c1 u1 oA bA kA1 kA2
       have gA : Below w1.heap.size w1 u1 := bmore gB bA (Nat.le_refl _)
       have hTw : TwR w u1 ros ms A1 c1 B1 d1 := ⟨bmore HB.out gA (Nat.le_refl _), HY.out.below gA HY.out.lt, oA, own_below3 oB bA, kA1, kA2, kB1, kB2⟩
       have x0 := (HX.out.below gA HX.out.lt).cell 0
       have x1 := (HX.out.below gA HX.out.lt).cell 1
       have y0 := (HY.out.below gA HY.out.lt).cell 0
       have y1 := (HY.out.below gA HY.out.lt).cell 1
       have z0 := (HY.out.below gA HY.out.lt).frozen 0
       have z1 := (HY.out.below gA HY.out.lt).frozen 1
       simp at x0 x1 y0 y1)
    | (refine step_nil rfl (.const (.slice none 0 0)) (.tmp 7) 25 rfl (w.heap.size + 1 + 1) 3 i0 (.int .i64 0) 8 Try.underlying25 hi hz0 hz1 hz2 rfl (by simp [Act.eval, Act.put]) B ms.length d (ic ms) (by simp [Act.eval, Act.put]) (HBB.out.below bA) (ic_one _) (by unfold maxLen; omega) (by omega) (Nat.le_trans hsz gA.size) ?_
       intro B1 d1 u2 oB bB kB1 kB2
       have gB : Below w1.heap.size w1 u2 := bmore gA bB (Nat.le_refl _)
       have hTw : TwR w u2 ros ms A1 c1 B1 d1 := ⟨bmore HB.out gB (Nat.le_refl _), HY.out.below gB HY.out.lt, own_below3 oA bB, oB, kA1, kA2, kB1, kB2⟩
       have x0 := (HX.out.below gB HX.out.lt).cell 0
       have x1 := (HX.out.below gB HX.out.lt).cell 1
       have y0 := (HY.out.below gB HY.out.lt).cell 0
       have y1 := (HY.out.below gB HY.out.lt).cell 1
       have z0 := (HY.out.below gB HY.out.lt).frozen 0
       have z1 := (HY.out.below gB HY.out.lt).frozen 1
       simp at x0 x1 y0 y1))
  all_goals
    obtain ⟨tb, tg, tw⟩ := twR_end (by assumption : TwR w _ ros ms A1 c1 B1 d1)
    have e0 := tb.cell 0
    have e1 := tb.cell 1
    simp at e0 e1
    go_wp2_with fail
    exact bodyPost_ret (v := .agg #[.slice A1 ros.length c1, .slice B1 ms.length d1]) (by simp [results, Try.results17, go_sem, e0, e1]) rfl ⟨_, rfl, tg, tw⟩
end Go.Proofs.Ytodmpapfnilkoaa.LP

namespace Go.Proofs.Ytodmpapfnilkoaa.LP
open Go.RowKit CP
set_option linter.unusedVariables false

theorem gp_of {w : World} {v : Value} {rs ms : List Int} (h : GroupArg w v rs ms) : GpIs w v rs ms := by
  obtain ⟨A, n, c, B, m, d, rfl, h1, h2, h3, h4, h5, h6⟩ := h
  have e1 : rs.length = n := by have := h3.1; rwa [ic_length] at this
  have e2 : ms.length = m := by have := h6.1; rwa [ic_length] at this
  subst e1 e2
  exact ⟨A, c, B, d, rfl, ⟨h3, h1, h2⟩, ⟨h6, h4, h5⟩⟩
end Go.Proofs.Ytodmpapfnilkoaa.LP
