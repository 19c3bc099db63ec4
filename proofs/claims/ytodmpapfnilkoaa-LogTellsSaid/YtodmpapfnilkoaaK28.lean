/-
  What package quorum answers of a list that reads as ints, as bits: set. Conditions: the slices read as ints.
  What package quorum answers of a group: CheckGroup. Conditions: the slices read as ints.
  Package log: whether a command turns the members (counts); slices.Clone of ints. Conditions: the slices read as ints.
  slices.Backward over a list of commands, as a range over a function asks of it: the iterator's contract. Conditions: as each theorem says.
-/
import Derived.Test.YtodmpapfnilkoaaProg
import Derived.Test.YtodmpapfnilkoaaK01
import Derived.Lib.Hide
import Derived.Lib.Strings
import Derived.Lib.Slices
import Derived.Lib.Small
import Derived.Lib.Walk
import Derived.Lib.BitFns
import Derived.WalkKit
import Derived.IntWalk
import Derived.Laws.BitsLemmas
import Derived.Test.YtodmpapfnilkoaaK04
import Derived.Deep.QuietTactic
import Derived.BigQuiet
import Derived.Below
import Derived.Test.YtodmpapfnilkoaaK25
import Derived.Lib.SliceRun
import Derived.RangeFuncNested
import Derived.RangeFuncBound
import Derived.RangeFuncCalls
import Derived.RangeFuncLeaves
import Derived.Shelf.Abstract
import Derived.Shelf.RegionOpen
import Derived.OwnWalkIn
import Derived.TacticsInMore
import Derived.LoopNIn
import Derived.LoopIn
namespace Go.Proofs.Ytodmpapfnilkoaa
open Go.RowKit
set_option linter.unusedVariables false
set_option maxRecDepth 100000

theorem u8_or : ∀ x y : Fin 64, bits .or .u8 ((x.val : Nat) : Int) ((y.val : Nat) : Int) = ((x.val ||| y.val : Nat) : Int) := by decide +kernel
theorem u8_and : ∀ x y : Fin 64, bits .and .u8 ((x.val : Nat) : Int) ((y.val : Nat) : Int) = ((x.val &&& y.val : Nat) : Int) := by decide +kernel
theorem u8_not : ∀ x y : Fin 64, bits .andNot .u8 ((x.val : Nat) : Int) ((y.val : Nat) : Int) = ((x.val &&& (63 ^^^ y.val) : Nat) : Int) := by decide +kernel
theorem u8_add (s : Nat) (z : Int) (hs : s < 64) (h0 : 0 ≤ z) (h1 : z < 6) : bits .or .u8 (s : Int) ((2 : Int) ^ z.toNat % 256) = ((s ||| 2 ^ z.toNat : Nat) : Int) := by
  have h6 : z.toNat < 6 := by omega
  have hp : 2 ^ z.toNat < 64 := QM.two_lt h6
  rw [show ((2 : Int) ^ z.toNat) = ((2 ^ z.toNat : Nat) : Int) by push_cast; rfl]
  generalize 2 ^ z.toNat = q at hp ⊢
  have e : ((q : Nat) : Int) % 256 = (q : Int) := by omega
  rw [e]
  exact u8_or ⟨s, hs⟩ ⟨q, hp⟩
theorem u8_nots (x y : Nat) (hx : x < 64) (hy : y < 64) : bits .andNot .u8 (x : Int) (y : Int) = ((x &&& (63 ^^^ y) : Nat) : Int) := u8_not ⟨x, hx⟩ ⟨y, hy⟩
theorem u8_ands (x y : Nat) (hx : x < 64) (hy : y < 64) : bits .and .u8 (x : Int) (y : Int) = ((x &&& y : Nat) : Int) := u8_and ⟨x, hx⟩ ⟨y, hy⟩
theorem ret_u8 {a b : Nat} (h : a = b) : Ending.returned (.int .u8 (a : Int)) = .returned (.int .u8 (b : Int)) := by rw [h]
theorem val_u8 {a b : Int} (h : a = b) : Value.int .u8 a = .int .u8 b := by rw [h]
set_option maxHeartbeats 1000000 in
theorem set_any (A : Option Addr) (n c : Nat) (zs : List Int) (w : World) (hr : Rd w A n (ic zs)) (hm : n ≤ 9223372036854775807) :
    Calls Try.prog 54 #[.slice A n c] w fun e w' => e = .returned (.int .u8 (QM.set zs : Int)) ∧ w = w' := by
  have hl : zs.length = n := by have := hr.1; rwa [ic_length] at this
  have HL := Lib.hid hl; clear hl
  go_enter Try.func54, Try.ntmps54
  go_wp2
  go_loop [2, 7] (fun a i => ∃ (k s : Nat), k ≤ n ∧ i = .int .i64 k ∧ a = .int .u8 s ∧ s < 64 ∧ Hid (s = QM.setF 0 (zs.take k))) (fun _ i => n - (intOf i).toNat)
  case atStart => exact ⟨0, 0, by omega, rfl, rfl, by omega, Lib.hid rfl⟩
  case round =>
    obtain ⟨k, s, hk, rfl, rfl, hs, HR⟩ := hrel
    by_cases hlt : k < n
    · have hkz : k < zs.length := by have := HL.out; omega
      obtain ⟨ad, u, rfl, _, hu, hcell⟩ := hr.at_ hlt
      rw [ic_get zs k hkz] at hu
      injection hu with hu
      subst hu
      have hd : QM.add s zs[k] = QM.setF 0 (zs.take (k + 1)) := by
        rw [List.take_succ_eq_append_getElem hkz, QM.setF_snoc, ← HR.out]
      obtain ⟨z, hz⟩ : ∃ z, z = zs[k] := ⟨_, rfl⟩
      rw [← hz] at hcell hd
      clear hz HR
      by_cases h1 : 0 ≤ z ∧ z < 6
      · have hd' : s ||| 2 ^ z.toNat = QM.setF 0 (zs.take (k + 1)) := by rw [← hd]; unfold QM.add; rw [if_pos h1]
        clear hd
        have HD := Lib.hid hd'; clear hd'
        obtain ⟨h1, h2⟩ := h1
        go_wp2
        go_round
        case rel => exact ⟨k + 1, s ||| 2 ^ z.toNat, by omega, by go_num, val_u8 (u8_add s z hs h1 h2), Nat.or_lt_two_pow (n := 6) hs (QM.two_lt (by omega)), HD⟩
        case measure => simp [intOf]; omega
      · have hd' : s = QM.setF 0 (zs.take (k + 1)) := by rw [← hd]; unfold QM.add; rw [if_neg h1]
        clear hd
        have HD := Lib.hid hd'; clear hd'
        rcases (show z < 0 ∨ (0 ≤ z ∧ 6 ≤ z) by omega) with h2 | ⟨h2, h3⟩
        all_goals
          clear h1
          go_wp2
          go_round
          case rel => exact ⟨k + 1, s, by omega, by go_num, rfl, hs, HD⟩
          case measure => simp [intOf]; omega
    · obtain rfl : k = n := by omega
      have hd : s = QM.set zs := by have := HR.out; rw [List.take_of_length_le (by have := HL.out; omega)] at this; exact this
      have HD := Lib.hid hd; clear hd
      go_wp2
      go_ret
      exact ⟨ret_u8 HD.out, rfl⟩
end Go.Proofs.Ytodmpapfnilkoaa

namespace Go.Proofs.Ytodmpapfnilkoaa
open Go.RowKit
set_option linter.unusedVariables false
set_option maxRecDepth 100000

theorem set_quiet (A : Option Addr) (n c : Nat) (zs : List Int) (W : World) (q : Nat) (hr : Rd W A n (ic zs)) (hm : n ≤ 9223372036854775807) :
    Calls Try.prog 54 #[.slice A n c] (W.drewN q) fun e w' => e = .returned (.int .u8 (QM.set zs : Int)) ∧ ∃ m, w' = W.drewN m :=
  (set_any A n c zs (W.drewN q) (hr.drewN q) hm).mono fun _ _ ⟨a, b⟩ => ⟨a, q, b.symm⟩
set_option maxHeartbeats 1000000 in
theorem checkGroup_any (A : Option Addr) (n c : Nat) (rs : List Int) (B : Option Addr) (m d : Nat) (ms : List Int) (y : Int) (w : World) (hr : Rd w A n (ic rs)) (hm : n ≤ 9223372036854775807)
    (hr2 : Rd w B m (ic ms)) (hm2 : m ≤ 9223372036854775807) (hy : QM.GrpIs rs ms y) :
    Calls Try.prog 34 #[.agg #[.slice A n c, .slice B m d]] w fun e w' => e = .returned (.int .i64 y) ∧ Below w.heap.size w w' := by
  rcases hy with ⟨hc, h0⟩ | ⟨hc, hc2, h0⟩ | ⟨hc, hc2, hb⟩
  · have HC := Lib.hid hc
    have hne : (y != 0) = true := by simpa using h0
    clear hc h0
    go_enter Try.func34, Try.ntmps34
    go_wp2_with fail
    refine (qcheck_any A n c rs y _ (hr.alloc _) hm HC.out).mono ?_
    rintro e w1 ⟨rfl, rfl⟩
    go_wp2
    go_ret
    exact ⟨rfl, (Below.refl _ _).alloc (Nat.le_refl _) _⟩
  · have HC := Lib.hid hc
    have HC2 := Lib.hid hc2
    have hne : (y != 0) = true := by simpa using h0
    clear hc hc2 h0
    go_enter Try.func34, Try.ntmps34
    go_wp2_with fail
    refine (qcheck_any A n c rs 0 _ (hr.alloc _) hm HC.out).mono ?_
    rintro e w1 ⟨rfl, rfl⟩
    go_wp2_with fail
    refine (qcheck_any B m d ms y _ (hr2.alloc _) hm2 HC2.out).mono ?_
    rintro e w1 ⟨rfl, rfl⟩
    go_wp2
    go_ret
    exact ⟨rfl, (Below.refl _ _).alloc (Nat.le_refl _) _⟩
  · have hmay : QM.may ms = true := by
      rcases QM.chkIs_cases hc2 with ⟨_, h⟩ | ⟨_, h⟩
      · exact h
      · omega
    obtain ⟨_, h6, hrise⟩ := QM.may_len hmay
    have hw := QM.within_bits (r := rs) hrise
    have hs1 := QM.set_lt ms
    have hs2 := QM.set_lt rs
    have hnot := u8_nots _ _ hs1 hs2
    have HC := Lib.hid hc
    have HC2 := Lib.hid hc2
    have c1 := fun W q (h : Rd W B m (ic ms)) => set_quiet B m d ms W q h hm2
    have c2 := fun W q (h : Rd W A n (ic rs)) => set_quiet A n c rs W q h hm
    generalize QM.set ms = s at hw hnot hs1 c1
    generalize QM.set rs = t at hw hnot hs2 c2
    have C1 := Lib.hid c1
    have C2 := Lib.hid c2
    rcases hin : QM.within ms rs with _ | _
    · have hne : (bits .andNot .u8 (s : Int) (t : Int) != 0) = true := by
        rw [hnot]
        have : s &&& (63 ^^^ t) ≠ 0 := fun e => by rw [hw.1 e] at hin; cases hin
        simp
        omega
      rw [hin] at hb
      obtain rfl : y = 60 := by simpa using hb
      clear hc hc2 hmay h6 hrise hw hnot c1 c2 hin hb
      go_enter Try.func34, Try.ntmps34
      go_wp2_with fail
      refine (qcheck_any A n c rs 0 _ (hr.alloc _) hm HC.out).mono ?_
      rintro e w1 ⟨rfl, rfl⟩
      go_wp2_with fail
      refine (qcheck_any B m d ms 0 _ (hr2.alloc _) hm2 HC2.out).mono ?_
      rintro e w1 ⟨rfl, rfl⟩
      go_wp2_with fail
      go_quiet ((first | (go_at_call 54; with_reducible exact C1.out _ _ (hr2.alloc _)) | (go_at_call 54; with_reducible exact C2.out _ _ (hr.alloc _))))
      go_wp2
      go_ret
      exact ⟨rfl, below_drewN ((Below.refl _ _).alloc (Nat.le_refl _) _) _⟩
    · have hne : (bits .andNot .u8 (s : Int) (t : Int) != 0) = false := by
        rw [hnot, hw.2 hin]
        simp
      rw [hin] at hb
      obtain rfl : y = 0 := by simpa using hb
      clear hc hc2 hmay h6 hrise hw hnot c1 c2 hin hb
      go_enter Try.func34, Try.ntmps34
      go_wp2_with fail
      refine (qcheck_any A n c rs 0 _ (hr.alloc _) hm HC.out).mono ?_
      rintro e w1 ⟨rfl, rfl⟩
      go_wp2_with fail
      refine (qcheck_any B m d ms 0 _ (hr2.alloc _) hm2 HC2.out).mono ?_
      rintro e w1 ⟨rfl, rfl⟩
      go_wp2_with fail
      go_quiet ((first | (go_at_call 54; with_reducible exact C1.out _ _ (hr2.alloc _)) | (go_at_call 54; with_reducible exact C2.out _ _ (hr.alloc _))))
      go_wp2
      go_ret
      exact ⟨rfl, below_drewN ((Below.refl _ _).alloc (Nat.le_refl _) _) _⟩
end Go.Proofs.Ytodmpapfnilkoaa

namespace Go.Proofs.Ytodmpapfnilkoaa.LP
open Go.RowKit CP
open CM (Cm Mg)
set_option linter.unusedVariables false
set_option linter.unusedSimpArgs false
set_option maxRecDepth 100000

theorem grp_ros {ros ms : List Int} (h : QM.GrpIs ros ms 0) : QM.ChkIs ros 0 := by
  rcases h with ⟨_, h⟩ | ⟨_, _, h⟩ | ⟨h, _⟩
  · exact absurd rfl h
  · exact absurd rfl h
  · exact h
theorem grp_ms {ros ms : List Int} (h : QM.GrpIs ros ms 0) : QM.may ms = true := by
  rcases h with ⟨_, h⟩ | ⟨_, _, h⟩ | ⟨_, h, _⟩
  · exact absurd rfl h
  · exact absurd rfl h
  · rcases QM.chkIs_cases h with ⟨_, h⟩ | ⟨_, h⟩
    · exact h
    · omega
theorem may_ms {x : Cm} (h : CM.may x) (hk : x.k = 3) : QM.may x.ms = true := by
  obtain ⟨k, am, aid, atm, ams, atp, awh, an⟩ := x
  subst hk
  exact (may_iff3.1 h).2.2.2.1
theorem grp_cm {ros ms : List Int} {x : Cm} (h : QM.GrpIs ros ms 0) (hx : CM.may x) (hk : x.k = 3) : QM.GrpIs ros x.ms (if QM.within x.ms ros = true then 0 else 60) :=
  .inr (.inr ⟨grp_ros h, .inr (.inr ⟨may_ms hx hk, rfl⟩), by cases QM.within x.ms ros <;> rfl⟩)
set_option maxHeartbeats 2000000 in
theorem counts_any (A : Option Addr) (n c : Nat) (ros : List Int) (B : Option Addr) (m d : Nat) (ms : List Int) (x : El) (w : World) (h1 : Rd w A n (ic ros)) (hn : n ≤ 9223372036854775807) (hg : QM.GrpIs ros ms 0) (hx : CM.may x.x) (h2 : RowIs w x.B x.d x.x.ms) :
    Calls Try.prog 36 #[.agg #[.slice A n c, .slice B m d], .agg (ccells x.A x.c x.B x.d x.x)] w (BoolIs (decide (x.x.k = 3 ∧ QM.within x.x.ms ros = true)) w) := by
  obtain ⟨EA, ec, EB, ed, ⟨k0, ⟨mi, mg, mt, mk, mb⟩, aid, atm, ams, atp, awh, an⟩⟩ := x
  have hm2 : ams.length ≤ 9223372036854775807 := by have := h2.2.1; have := h2.2.2; unfold maxLen at this; simp at *; omega
  have HB := Lib.hid (show Below w.heap.size w ((w.alloc (.cells #[.slice A n c, .slice B m d] 33)).alloc (.cells #[.int .u8 k0, .int .i64 mi, .slice EA mg.length ec, .int .i64 mt, .string mk, .string mb, .int .i64 aid, .int .i64 atm, .slice EB ams.length ed, .int .i64 atp, .int .i64 awh, .int .i64 an] 29)) from ((Below.refl _ _).alloc (Nat.le_refl _) _).alloc (by simp) _)
  have HX := Lib.hid ((Box.new w 33 #[.slice A n c, .slice B m d]).alloc (.cells #[.int .u8 k0, .int .i64 mi, .slice EA mg.length ec, .int .i64 mt, .string mk, .string mb, .int .i64 aid, .int .i64 atm, .slice EB ams.length ed, .int .i64 atp, .int .i64 awh, .int .i64 an] 29))
  have HY := Lib.hid (show Box ((w.alloc (.cells #[.slice A n c, .slice B m d] 33)).alloc (.cells #[.int .u8 k0, .int .i64 mi, .slice EA mg.length ec, .int .i64 mt, .string mk, .string mb, .int .i64 aid, .int .i64 atm, .slice EB ams.length ed, .int .i64 atp, .int .i64 awh, .int .i64 an] 29)) (w.heap.size + 1) 29 #[.int .u8 k0, .int .i64 mi, .slice EA mg.length ec, .int .i64 mt, .string mk, .string mb, .int .i64 aid, .int .i64 atm, .slice EB ams.length ed, .int .i64 atp, .int .i64 awh, .int .i64 an] from Box.new_at _ (by simp))
  by_cases hk : k0 = 3
  · subst hk
    have CG := Lib.hid (fun W (hW : Below w.heap.size w W) => checkGroup_any A n c ros EB ams.length ed ams _ W (h1.below hW) hn (h2.1.below hW) hm2 (grp_cm hg hx rfl))
    clear h1 h2 hg hx hn hm2
    unfold ccells
    cases hwt : QM.within ams ros
    all_goals
      rw [hwt] at CG
      simp only [Bool.false_eq_true, if_true, if_false, and_false, and_true, true_and, decide_true, decide_false] at CG ⊢
      clear hwt
      go_enter Try.func36, Try.ntmps36
      go_upto_region 1 with (fail)
      generalize (w.alloc (.cells #[.slice A n c, .slice B m d] 33)).alloc (.cells #[.int .u8 3, .int .i64 mi, .slice EA mg.length ec, .int .i64 mt, .string mk, .string mb, .int .i64 aid, .int .i64 atm, .slice EB ams.length ed, .int .i64 atp, .int .i64 awh, .int .i64 an] 29) = w1 at HX HY HB ⊢
      have c0 := HX.out.cell 0
      have d0 := HY.out.cell 0
      have d8 := HY.out.cell 8
      simp at c0 d0 d8
      go_wp2_with fail
      refine (CG.out _ HB.out).mono ?_
      rintro e w2 ⟨rfl, hb⟩
      have HB2 := Lib.hid (bmore HB.out hb (Nat.le_refl _))
      clear hb CG HX HY HB c0 d0 d8
      go_wp2_with fail
      go_ret
      exact ⟨by rfl, HB2.out⟩
  · have b3 : (k0 == 3) = false := by simpa using hk
    have HF := Lib.hid (show decide (k0 = 3 ∧ QM.within ams ros = true) = false by simp [hk])
    clear h1 h2 hg hx hn hm2 hk
    unfold ccells
    simp only
    rw [HF.out]
    go_enter Try.func36, Try.ntmps36
    go_upto_region 1 with (fail)
    generalize (w.alloc (.cells #[.slice A n c, .slice B m d] 33)).alloc (.cells #[.int .u8 k0, .int .i64 mi, .slice EA mg.length ec, .int .i64 mt, .string mk, .string mb, .int .i64 aid, .int .i64 atm, .slice EB ams.length ed, .int .i64 atp, .int .i64 awh, .int .i64 an] 29) = w1 at HX HY HB ⊢
    have c0 := HX.out.cell 0
    have d0 := HY.out.cell 0
    have d8 := HY.out.cell 8
    simp at c0 d0 d8
    go_wp2_with fail
    go_ret
    exact ⟨by rfl, HB.out⟩
end Go.Proofs.Ytodmpapfnilkoaa.LP

namespace Go.Proofs.Ytodmpapfnilkoaa.LP
open Go.RowKit Go.Shelf CP
open CM (Cm Mg)
set_option linter.unusedVariables false
set_option linter.unusedSimpArgs false
set_option maxRecDepth 100000
attribute [local go_sem] Oper.semAt_some

/-- what has come, from behind, when the first m are left -/
def bk (es : List El) (m : Nat) : List (Fin es.length) := ((List.finRange es.length).drop m).reverse
theorem bk_end (es : List El) : bk es es.length = [] := by unfold bk; rw [List.drop_of_length_le (by rw [List.length_finRange]; exact Nat.le_refl _)]; rfl
theorem bk_next {es : List El} {p : Nat} (hp : p < es.length) : bk es p = bk es (p + 1) ++ [⟨p, hp⟩] := by
  unfold bk
  rw [List.drop_eq_getElem_cons (by rw [List.length_finRange]; exact hp), List.reverse_cons]
  simp
theorem bk_len {es : List El} {m : Nat} : (bk es m).length = es.length - m := by unfold bk; rw [List.length_reverse, List.length_drop, List.length_finRange]
theorem bk_pre (es : List El) (m : Nat) : ∃ r, bk es 0 = bk es m ++ r := by
  refine ⟨((List.finRange es.length).take m).reverse, ?_⟩
  unfold bk
  rw [← List.reverse_append, List.take_append_drop]
  rfl
theorem bk_cs (es : List El) : (bk es 0).map (fun x => (es[x.1]).x) = (es.map (fun e => e.x)).reverse := by
  unfold bk
  rw [List.drop_zero, List.map_reverse]
  congr 1
  apply List.ext_getElem
  · simp
  · intro i h1 h2
    simp
abbrev encE (p : Nat) (e : El) : Array Value := #[.int .i64 (p : Int), .agg #[.int .u8 e.x.k, .int .i64 e.x.m.id, .slice e.A e.x.m.gs.length e.c, .int .i64 e.x.m.tp, .string e.x.m.key, .string e.x.m.body, .int .i64 e.x.id, .int .i64 e.x.tm, .slice e.B e.x.ms.length e.d, .int .i64 e.x.tp, .int .i64 e.x.wh, .int .i64 e.x.n]]
def encB (es : List El) (x : Fin es.length) : Array Value := encE x.1 es[x.1]
theorem encB_at {es : List El} {p : Nat} {e : El} (hp : p < es.length) (h : es[p]? = some e) : encB es ⟨p, hp⟩ = encE p e := by
  unfold encB
  rw [List.getElem?_eq_getElem hp] at h
  injection h with h
  simp only [h]
set_option maxHeartbeats 1000000 in
theorem back_nil (F : Fence) (n : Nat) (h7 : F.fn 55) (hro : F.round = none) (l Bs : Nat) {es : List El} (J : List (Fin es.length) → World → Prop) (W : World) (hBs : W.cell? ⟨Bs, 0, none⟩ = some (.slice none 0 0)) (h0 : J [] W) :
    CallsIn F n Try.prog 55 #[.func (.yield l) #[] #[], .pointer (some ⟨Bs, 0, none⟩)] W fun e W' => (∃ v, e = .returned v) ∧ J [] W' := by
  refine callsIn_of_wp Try.func55 rfl h7 ?_ hro
  simp only [Try.ntmps55, List.size_toArray, List.length_cons, List.length_nil, Nat.reduceAdd, Nat.reduceSub, Array.replicate_succ, Array.replicate_zero, List.push_toArray, List.append_toArray, List.nil_append, List.cons_append]
  gi_wp2
  gi_loopw [3] (fun i wr => i = .int .i64 (-1) ∧ J [] wr) (fun _ _ => 0)
  case atStart => exact ⟨rfl, h0⟩
  case round =>
    obtain ⟨rfl, hJs⟩ := hrel
    gi_wp2
    go_end0
    exact ⟨⟨_, rfl⟩, hJs⟩
set_option maxHeartbeats 4000000 in
theorem back1_in (F : Fence) (n : Nat) (h7 : F.fn 55) (hro : F.round = none) (hn : 1 ≤ n) (l Bs n₀ b off len cap : Nat) (es : List El) (hlen : es.length = len) (hreach : len ≤ 1000) (hb : b < n₀) (J Jx : List (Fin es.length) → World → Prop)
    (hY : ∀ pre x W, J pre W → pre.length < len → YieldAt F (n - 1) Try.prog l (encB es x) W fun e W' =>
      (e = .returned (.bool true) ∧ J (pre ++ [x]) W' ∧ Below n₀ W W') ∨ (e = .returned (.bool false) ∧ Jx (pre ++ [x]) W'))
    (W : World) (hBs : W.cell? ⟨Bs, 0, none⟩ = some (.slice (some ⟨b, off, none⟩) len cap)) (hBk : Bs < n₀) (hc : ∀ p e, es[p]? = some e → ∀ j, j < 12 → W.cell? ⟨b, off + p * 12 + j, none⟩ = (ecell e)[j]?) (h0 : J [] W) :
    CallsIn F n Try.prog 55 #[.func (.yield l) #[] #[], .pointer (some ⟨Bs, 0, none⟩)] W fun e W' => (∃ v, e = .returned v) ∧
      ((∃ ys, ys = bk es 0 ∧ J ys W') ∨ (∃ pre, (∃ m, m < len ∧ pre = bk es m) ∧ Jx pre W')) := by
  have hlenH := Lib.hid hlen
  have hcH := Lib.hid hc
  clear hlen hc
  refine callsIn_of_wp Try.func55 rfl h7 ?_ hro
  simp only [Try.ntmps55, List.size_toArray, List.length_cons, List.length_nil, Nat.reduceAdd, Nat.reduceSub, Array.replicate_succ, Array.replicate_zero, List.push_toArray, List.append_toArray, List.nil_append, List.cons_append]
  gi_wp2
  gi_loopw [3] (fun i wr => ∃ m : Nat, m ≤ len ∧ i = .int .i64 ((m : Int) - 1) ∧ J (bk es m) wr ∧ Below n₀ W wr)
    (fun i _ => (intOf i + 1).toNat)
  case atStart => exact ⟨len, Nat.le_refl _, rfl, by rw [← hlenH.out, bk_end]; exact h0, Below.refl _ _⟩
  case round =>
    obtain ⟨m, hm, rfl, hJs, hnx⟩ := hrel
    rcases m with _ | p
    · gi_wp2
      go_end0
      exact ⟨⟨_, rfl⟩, .inl ⟨_, rfl, hJs⟩⟩
    · obtain ⟨e, he⟩ : ∃ e, es[p]? = some e := ⟨_, List.getElem?_eq_getElem (by have := hlenH.out; omega)⟩
      have hBs2 : wr.cell? ⟨Bs, 0, none⟩ = some (.slice (some ⟨b, off, none⟩) len cap) := (hnx.cell (p := ⟨Bs, 0, none⟩) hBk).trans hBs
      obtain ⟨x0, x1, x2, x3, x4, x5, x6, x7, x8, x9, x10, x11⟩ := at12_of (o := off + p * 12) (fun j hj => (hnx.cell (p := ⟨b, off + p * 12 + j, none⟩) hb).trans (hcH.out p e he j hj))
      have hpl : p < es.length := by have := hlenH.out; omega
      have hYp := hY _ ⟨p, hpl⟩ wr hJs (by rw [bk_len]; have := hlenH.out; omega)
      rw [encB_at hpl he] at hYp
      obtain ⟨fn, tmps, assign, body, hy, hR⟩ := hYp
      have HNX := Lib.hid (bk_next hpl)
      have HE := Lib.hid he
      clear he
      rw [show ((p + 1 : Nat) : Int) - 1 = (p : Int) by omega]
      dsimp only [encE] at hy
      gi_wp2
      refine hR.mono ?_
      rintro e' W3 (⟨rfl, hJ3, hk3⟩ | ⟨rfl, hJx3⟩)
      · gi_wp2
        go_roundw
        case rel => exact ⟨p, by omega, by simp, by rw [HNX.out]; exact hJ3, hnx.trans hk3⟩
        case measure => simp [intOf]
      · gi_wp2
        refine bodyPost_ret (results_none rfl _ _ _) rfl ?_
        exact ⟨⟨_, rfl⟩, .inr ⟨_, ⟨p, by omega, HNX.out.symm⟩, hJx3⟩⟩
theorem backward_in (F : Fence) (n : Nat) (h5 : F.fn 35) (hro : F.round = none) (a : Option Addr) (len cap : Nat) (w : World) :
    CallsIn F n Try.prog 35 #[.slice a len cap] w fun e w' => e = .returned (.func (.func 55) #[] #[.pointer (some ⟨w.heap.size, 0, none⟩)]) ∧ w' = w.alloc (.cells #[.slice a len cap] 39) := by
  refine callsIn_of_wp Try.func35 rfl h5 ?_ hro
  simp only [Try.ntmps35, List.size_toArray, List.length_cons, List.length_nil, Nat.reduceAdd, Nat.reduceSub, Array.replicate_succ, Array.replicate_zero, List.push_toArray, List.append_toArray, List.nil_append, List.cons_append]
  gi_wp2
  go_ret
  exact ⟨rfl, rfl⟩
/-- slices.Backward's value, as a range asks of it -/
theorem back_stops (F : Fence) (n : Nat) (h7 : F.fn 55) (hro : F.round = none) (hn : 1 ≤ n) (Bs n₀ : Nat) (sv : Value) (es : List El) (hreach : es.length ≤ 1000) (w : World) (hBk : Bs < n₀) (hn₀ : n₀ ≤ w.heap.size)
    (hc : w.cell? ⟨Bs, 0, none⟩ = some sv) (hI : Row n₀ w sv es) :
    SeqStopsK F n Try.prog 55 #[.pointer (some ⟨Bs, 0, none⟩)] (encB es) (Below n₀) (fun ys => ys = bk es 0) (fun pre => ∃ m, m < es.length ∧ pre = bk es m) es.length w := fun l J Jx W hW _ _ hY h0 => by
  have hc' := (hW.cell (p := ⟨Bs, 0, none⟩) (Nat.lt_of_lt_of_le hBk hn₀)).trans hc
  rcases hI.below (hW.mono hn₀) with ⟨rfl, rfl⟩ | ⟨b, off, cap, rfl, hb, hcs⟩
  · exact (back_nil F n h7 hro l Bs J W hc' h0).mono fun e W' ⟨he, hj⟩ => ⟨he, .inl ⟨_, rfl, hj⟩⟩
  · exact back1_in F n h7 hro hn l Bs n₀ b off es.length cap es rfl hreach hb J Jx hY W hc' hBk hcs h0
end Go.Proofs.Ytodmpapfnilkoaa.LP
