/-
  Where a vote stands: slices.BinarySearchFunc at byPlace, place, voteAt of package stable. Conditions: the slice reads as votes that rise.
  Package stable's place and voteAt. Conditions: the slice reads as votes that rise.
  Package stable's put: a vote into a row of votes of the call's own. Conditions: the votes rise, are at most 1,999; the vote is zero or has promised something.
  Package stable's put: a vote into a row of votes of the call's own. Conditions: the votes rise, are at most 1,999; the vote is zero or has promised something.
  Package stable's isGroup, isVote. Conditions: the slices read as said, numbers fit.
  Package stable's wrong. Conditions: the logs read as said.
  Package stable's New. No condition.
  Package stable's do, in memory: what it keeps. No walk.
  Package stable's do, where a record is wrong at its place. Conditions: what lasts may be, the record too.
  Package stable's do: promise. Conditions: what lasts may be, the record too.
  Package stable's do: acceptance. Conditions: what lasts may be, the record too.
  Package stable's do: a decision. Conditions: what lasts may be, the record too.
-/
import Derived.Test.YtohiemdodffhoaaK02
import Derived.Shelf.RegionOpenPlain
import Derived.Test.YtohiemdodffhoaaVoteA
import Derived.Test.YtohiemdodffhoaaQq
import Derived.Test.YtohiemdodffhoaaK01
import Derived.Test.YtohiemdodffhoaaStApH
import Derived.Test.YtohiemdodffhoaaRecA
import Derived.Deep.RegionHeld3
import Derived.Deep.DeepCutAuto
namespace Go.Proofs.Ytohiemdodffhoaa.SP
open Go.RowKit Go.Shelf
open SM (Sn Sb Vo)
set_option linter.unusedVariables false
set_option linter.unusedSimpArgs false
set_option maxRecDepth 100000

def BndS (l : List Sn) (x : Sn) (lo hi : Nat) : Prop := (∀ t a, t < lo → l[t]? = some a → SM.lt a x = true) ∧ (∀ t a, hi ≤ t → l[t]? = some a → SM.lt a x = false)
theorem bnd_lo {l : List Sn} {x a : Sn} {lo hi m : Nat} (h : BndS l x lo hi) (hr : SM.Rises l) (ha : l[m]? = some a) (hl : SM.lt a x = true) : BndS l x (m + 1) hi := by
  refine ⟨fun t b ht hb => ?_, h.2⟩
  rcases Nat.lt_or_ge t m with h1 | h1
  · exact SM.lt_trans (SM.rises_get hr h1 hb ha) hl
  · obtain rfl : t = m := by omega
    rw [ha] at hb
    injection hb with hb
    rw [← hb]; exact hl
theorem bnd_hi {l : List Sn} {x a : Sn} {lo hi m : Nat} (h : BndS l x lo hi) (hr : SM.Rises l) (ha : l[m]? = some a) (hl : SM.lt a x = false) : BndS l x lo m := by
  refine ⟨h.1, fun t b ht hb => ?_⟩
  rcases Nat.lt_or_ge m t with h1 | h1
  · cases hk : SM.lt b x
    · rfl
    · rw [SM.lt_trans (SM.rises_get hr h1 ha hb) hk] at hl; cases hl
  · obtain rfl : t = m := by omega
    rw [ha] at hb
    injection hb with hb
    rw [← hb]; exact hl
def PlcQ (k : Nat) (b : Bool) (w : World) (e : Ending) (w' : World) : Prop := e = .returned (.tuple #[.int .i64 k, .bool b]) ∧ Below w.heap.size w w'
theorem sn_five {w : World} {g : Nat} {t : TypeId} {a b c d f : Value} (h : Box w g t #[a, b, c, d, f]) :
    w.cell? ⟨g, 0, none⟩ = some a ∧ w.cell? ⟨g, 1, none⟩ = some b ∧ w.cell? ⟨g, 2, none⟩ = some c ∧ w.cell? ⟨g, 3, none⟩ = some d ∧ w.cell? ⟨g, 4, none⟩ = some f :=
  ⟨h.cell 0, h.cell 1, h.cell 2, h.cell 3, h.cell 4⟩
theorem cell_blk {w : World} {a : Addr} {v : Value} (h : w.cell? a = some v) : a.block < w.heap.size := by
  rcases Nat.lt_or_ge a.block w.heap.size with h' | h'
  · exact h'
  · simp [World.cell?, Array.getElem?_eq_none h'] at h
set_option maxHeartbeats 16000000 in
theorem bsearch_any (A : Option Addr) (n c : Nat) (l : List Sn) (x : Sn) (W : World) (h : VotesIs W A n c l) (hr : SM.Rises l) (hn : n ≤ 2000) :
    Calls Try.prog 95 #[.slice A n c, vsn x, .func (.func 80) #[] #[]] W (PlcQ (SM.lpos l x) (SM.here l x) W) := by
  obtain ⟨h1, hl, hnc, hcm, hf⟩ := h
  unfold maxLen at hcm
  have HL := Lib.hid hl
  have HF := Lib.hid hf
  have HR := Lib.hid hr
  have HP := Lib.hid (fun k (hk : k ≤ n) (hb : BndS l x k k) => SM.lpos_of (l := l) (x := x) (by omega) hb.1 (fun a ha => hb.2 k a (Nat.le_refl _) ha))
  have HH := Lib.hid (show SM.here l x = match l[SM.lpos l x]? with | some y => decide (SM.cmpS y x = 0) | none => false by
    unfold SM.here
    rcases l[SM.lpos l x]? with _ | y
    · rfl
    · simp only [SM.cmpS_zero])
  have CB := Lib.hid (fun (a : Sn) (w : World) => byplace_any a x w)
  obtain ⟨K, hK⟩ : ∃ K, K = SM.lpos l x := ⟨_, rfl⟩
  obtain ⟨R, hR⟩ : ∃ R, R = SM.here l x := ⟨_, rfl⟩
  have HN := Lib.hid (fun (a : Sn) => SM.cmpS_neg (a := a) (b := x))
  rw [← hK, ← hR]
  rw [← hR, ← hK] at HH
  rw [← hK] at HP
  clear hK hR hl hf hr
  unfold vsn at CB ⊢
  obtain ⟨xg, xs, ⟨xp, xb, xv⟩⟩ := x
  obtain ⟨X, hX⟩ : ∃ X : Sn, X = ⟨xg, xs, ⟨xp, xb, xv⟩⟩ := ⟨_, rfl⟩
  rw [← hX] at HP HH HN
  have CB := Lib.hid (show ∀ (a : Sn) (w : World), Calls Try.prog 80 #[.agg #[.int .i64 a.g, .int .i64 a.s, .int .i64 a.o.p, .int .i64 a.o.b, .string a.o.v], .agg #[.int .i64 xg, .int .i64 xs, .int .i64 xp, .int .i64 xb, .string xv]] w fun e w' => e = .returned (.int .i64 (SM.cmpS a X)) ∧ Below w.heap.size w w' from by rw [hX]; exact CB.out)
  clear hX
  have hb0 : Below W.heap.size W (W.alloc (.cells #[.int .i64 xg, .int .i64 xs, .int .i64 xp, .int .i64 xb, .string xv] 75)) := (Below.refl _ _).alloc (Nat.le_refl _) _
  have HB := Lib.hid hb0
  have Y := Lib.hid (Box.new W 75 #[.int .i64 xg, .int .i64 xs, .int .i64 xp, .int .i64 xb, .string xv])
  have H1 := Lib.hid (h1.below hb0)
  clear h1 hb0
  go_enter Try.func95, Try.ntmps95
  go_upto_region 1 with (fail)
  generalize W.alloc (.cells #[.int .i64 xg, .int .i64 xs, .int .i64 xp, .int .i64 xb, .string xv] 75) = w1 at HB Y H1 ⊢
  generalize W.heap.size = g0 at Y ⊢
  go_wp2_with fail
  go_loopw [9, 10] (fun a b wr => ∃ (lo hi : Nat), a = .int .i64 lo ∧ b = .int .i64 hi ∧ lo ≤ hi ∧ hi ≤ n ∧ Hid (Below w1.heap.size w1 wr) ∧ Hid (BndS l X lo hi)) (fun a b _ => (intOf b).toNat - (intOf a).toNat)
  case atStart => exact ⟨0, n, rfl, rfl, Nat.zero_le _, Nat.le_refl _, Lib.hid (Below.refl _ _), Lib.hid ⟨fun t a ht => absurd ht (Nat.not_lt_zero _), fun t a ht ha => by
    have := (List.getElem?_eq_some_iff.1 ha).1
    have := HL.out
    omega⟩⟩
  case round =>
    obtain ⟨lo, hi, rfl, rfl, hlh, hin, HW, I⟩ := hrel
    have Y2 := Lib.hid (Y.out.below HW.out Y.out.lt)
    have H2 := Lib.hid (H1.out.below HW.out)
    have bb1 : Below wr.heap.size wr wr.drew := (Below.refl _ _).drew
    by_cases hlt : lo < hi
    · obtain ⟨m, hm⟩ : ∃ m, m = (lo + hi) / 2 := ⟨_, rfl⟩
      have hmi : ((lo : Int) + (hi : Int)) / 2 = (m : Int) := by omega
      have hm1 : lo ≤ m := by omega
      have hm2 : m < hi := by omega
      obtain ⟨bl, o, rfl⟩ := HF.out (by omega)
      obtain ⟨a, ha⟩ : ∃ a, l[m]? = some a := ⟨_, List.getElem?_eq_getElem (by have := HL.out; omega)⟩
      obtain ⟨a0, a1, a2, a3, a4⟩ := rdg_sn H2.out ha
      have habl : bl < wr.heap.size := cell_blk a0
      have HA := Lib.hid ha
      have CA := Lib.hid (fun w => CB.out a w)
      have HZ := Lib.hid (HN.out a)
      clear ha hm
      obtain ⟨z, hz⟩ : ∃ z, z = SM.cmpS a X := ⟨_, rfl⟩
      rw [← hz] at CA HZ
      clear hz
      obtain ⟨v0, v1, v2, v3, v4⟩ := sn_five Y2.out
      have HSS := Lib.hid (fun (w' : World) (h : Below wr.heap.size wr w') => show (w'.cell? ⟨bl, o + m * 5, none⟩ = some (.int .i64 a.g) ∧ w'.cell? ⟨bl, o + m * 5 + 1, none⟩ = some (.int .i64 a.s) ∧ w'.cell? ⟨bl, o + m * 5 + 2, none⟩ = some (.int .i64 a.o.p) ∧ w'.cell? ⟨bl, o + m * 5 + 3, none⟩ = some (.int .i64 a.o.b) ∧ w'.cell? ⟨bl, o + m * 5 + 4, none⟩ = some (.string a.o.v)) ∧ (w'.cell? ⟨g0, 0, none⟩ = some (.int .i64 xg) ∧ w'.cell? ⟨g0, 1, none⟩ = some (.int .i64 xs) ∧ w'.cell? ⟨g0, 2, none⟩ = some (.int .i64 xp) ∧ w'.cell? ⟨g0, 3, none⟩ = some (.int .i64 xb) ∧ w'.cell? ⟨g0, 4, none⟩ = some (.string xv)) from
        ⟨⟨(h.cell habl).trans a0, (h.cell habl).trans a1, (h.cell habl).trans a2, (h.cell habl).trans a3, (h.cell habl).trans a4⟩, sn_five (Y2.out.below h Y2.out.lt)⟩)
      generalize a.g = ag at CA a0 HSS
      generalize a.s = asl at CA a1 HSS
      generalize a.o.p = ap at CA a2 HSS
      generalize a.o.b = ab at CA a3 HSS
      generalize a.o.v = av at CA a4 HSS
      have hm0 : (0 : Int) ≤ (m : Int) := by omega
      have hmn : (m : Int) < (n : Int) := by omega
      clear habl
      go_upto_region 5 with (fail)
      by_cases hz : z < 0
      · have NX := Lib.hid (bnd_lo I.out HR.out HA.out (HZ.out.1 hz))
        clear I
        go_region_held3 (fun w' => (w'.cell? ⟨bl, o + m * 5, none⟩ = some (.int .i64 ag) ∧ w'.cell? ⟨bl, o + m * 5 + 1, none⟩ = some (.int .i64 asl) ∧ w'.cell? ⟨bl, o + m * 5 + 2, none⟩ = some (.int .i64 ap) ∧ w'.cell? ⟨bl, o + m * 5 + 3, none⟩ = some (.int .i64 ab) ∧ w'.cell? ⟨bl, o + m * 5 + 4, none⟩ = some (.string av)) ∧ (w'.cell? ⟨g0, 0, none⟩ = some (.int .i64 xg) ∧ w'.cell? ⟨g0, 1, none⟩ = some (.int .i64 xs) ∧ w'.cell? ⟨g0, 2, none⟩ = some (.int .i64 xp) ∧ w'.cell? ⟨g0, 3, none⟩ = some (.int .i64 xb) ∧ w'.cell? ⟨g0, 4, none⟩ = some (.string xv)))
          (first | exact HSS.out _ bb2 | exact HSS.out _ bb1 | go_keep)
          (first | (go_at_call 80; refine (CA.out _).mono ?_; rintro e w4 ⟨rfl, hb4⟩; have bb2 := bmore bb1 hb4 (Nat.le_refl _); clear hb4))
        clear a0 a1 a2 a3 a4 v0 v1 v2 v3 v4
        go_wp2_with fail
        go_roundw
        case rel => exact ⟨m + 1, hi, by go_num, rfl, by omega, hin, Lib.hid (bmore HW.out bb2 (Nat.le_refl _)), NX⟩
        case measure => simp [intOf]; omega
      · have NX := Lib.hid (bnd_hi I.out HR.out HA.out (by
          cases hk : SM.lt a X
          · rfl
          · exact absurd (HZ.out.2 hk) hz))
        clear I
        go_region_held3 (fun w' => (w'.cell? ⟨bl, o + m * 5, none⟩ = some (.int .i64 ag) ∧ w'.cell? ⟨bl, o + m * 5 + 1, none⟩ = some (.int .i64 asl) ∧ w'.cell? ⟨bl, o + m * 5 + 2, none⟩ = some (.int .i64 ap) ∧ w'.cell? ⟨bl, o + m * 5 + 3, none⟩ = some (.int .i64 ab) ∧ w'.cell? ⟨bl, o + m * 5 + 4, none⟩ = some (.string av)) ∧ (w'.cell? ⟨g0, 0, none⟩ = some (.int .i64 xg) ∧ w'.cell? ⟨g0, 1, none⟩ = some (.int .i64 xs) ∧ w'.cell? ⟨g0, 2, none⟩ = some (.int .i64 xp) ∧ w'.cell? ⟨g0, 3, none⟩ = some (.int .i64 xb) ∧ w'.cell? ⟨g0, 4, none⟩ = some (.string xv)))
          (first | exact HSS.out _ bb2 | exact HSS.out _ bb1 | go_keep)
          (first | (go_at_call 80; refine (CA.out _).mono ?_; rintro e w4 ⟨rfl, hb4⟩; have bb2 := bmore bb1 hb4 (Nat.le_refl _); clear hb4))
        clear a0 a1 a2 a3 a4 v0 v1 v2 v3 v4
        go_wp2_with fail
        go_roundw
        case rel => exact ⟨lo, m, rfl, by go_num, by omega, by omega, Lib.hid (bmore HW.out bb2 (Nat.le_refl _)), NX⟩
        case measure => simp [intOf]; omega
    · obtain rfl : hi = lo := by omega
      obtain rfl : K = hi := HP.out hi hin I.out
      clear HP I
      by_cases hkn : K < n
      · obtain ⟨bl, o, rfl⟩ := HF.out (by omega)
        obtain ⟨a, ha⟩ : ∃ a, l[K]? = some a := ⟨_, List.getElem?_eq_getElem (by have := HL.out; omega)⟩
        obtain ⟨a0, a1, a2, a3, a4⟩ := rdg_sn H2.out ha
        have habl : bl < wr.heap.size := cell_blk a0
        have hh := HH.out
        rw [ha] at hh
        simp only at hh
        have CA := Lib.hid (fun w => CB.out a w)
        clear ha
        obtain ⟨z, hz⟩ : ∃ z, z = SM.cmpS a X := ⟨_, rfl⟩
        rw [← hz] at CA hh
        clear hz HH
        have hzz : (z == 0) = R := by rw [hh]; rfl
        have HZ := Lib.hid hzz
        clear hh hzz
        obtain ⟨v0, v1, v2, v3, v4⟩ := sn_five Y2.out
        have HSS := Lib.hid (fun (w' : World) (h : Below wr.heap.size wr w') => show (w'.cell? ⟨bl, o + K * 5, none⟩ = some (.int .i64 a.g) ∧ w'.cell? ⟨bl, o + K * 5 + 1, none⟩ = some (.int .i64 a.s) ∧ w'.cell? ⟨bl, o + K * 5 + 2, none⟩ = some (.int .i64 a.o.p) ∧ w'.cell? ⟨bl, o + K * 5 + 3, none⟩ = some (.int .i64 a.o.b) ∧ w'.cell? ⟨bl, o + K * 5 + 4, none⟩ = some (.string a.o.v)) ∧ (w'.cell? ⟨g0, 0, none⟩ = some (.int .i64 xg) ∧ w'.cell? ⟨g0, 1, none⟩ = some (.int .i64 xs) ∧ w'.cell? ⟨g0, 2, none⟩ = some (.int .i64 xp) ∧ w'.cell? ⟨g0, 3, none⟩ = some (.int .i64 xb) ∧ w'.cell? ⟨g0, 4, none⟩ = some (.string xv)) from
          ⟨⟨(h.cell habl).trans a0, (h.cell habl).trans a1, (h.cell habl).trans a2, (h.cell habl).trans a3, (h.cell habl).trans a4⟩, sn_five (Y2.out.below h Y2.out.lt)⟩)
        generalize a.g = ag at CA a0 HSS
        generalize a.s = asl at CA a1 HSS
        generalize a.o.p = ap at CA a2 HSS
        generalize a.o.b = ab at CA a3 HSS
        generalize a.o.v = av at CA a4 HSS
        have hm0 : (0 : Int) ≤ (K : Int) := by omega
        have hmn : (K : Int) < (n : Int) := by omega
        have t1 : decide ((K : Int) < (n : Int)) = true := by simp; omega
        have t2 : decide (K < n) = true := by simp; omega
        clear habl
        go_upto_region 8 with (fail)
        go_region_held3 (fun w' => (w'.cell? ⟨bl, o + K * 5, none⟩ = some (.int .i64 ag) ∧ w'.cell? ⟨bl, o + K * 5 + 1, none⟩ = some (.int .i64 asl) ∧ w'.cell? ⟨bl, o + K * 5 + 2, none⟩ = some (.int .i64 ap) ∧ w'.cell? ⟨bl, o + K * 5 + 3, none⟩ = some (.int .i64 ab) ∧ w'.cell? ⟨bl, o + K * 5 + 4, none⟩ = some (.string av)) ∧ (w'.cell? ⟨g0, 0, none⟩ = some (.int .i64 xg) ∧ w'.cell? ⟨g0, 1, none⟩ = some (.int .i64 xs) ∧ w'.cell? ⟨g0, 2, none⟩ = some (.int .i64 xp) ∧ w'.cell? ⟨g0, 3, none⟩ = some (.int .i64 xb) ∧ w'.cell? ⟨g0, 4, none⟩ = some (.string xv)))
          (first | exact HSS.out _ bb2 | exact HSS.out _ bb1 | go_keep)
          (first | (go_at_call 80; refine (CA.out _).mono ?_; rintro e w4 ⟨rfl, hb4⟩; have bb2 := bmore bb1 hb4 (Nat.le_refl _); clear hb4))
        clear a0 a1 a2 a3 a4 v0 v1 v2 v3 v4
        all_goals
          go_wp2_with fail
          go_ret2
          exact ⟨by rw [← HZ.out]; rfl, HB.out.trans ((bmore HW.out bb2 (Nat.le_refl _)).mono HB.out.size)⟩
      · have hR : R = false := by
          have := HH.out
          rwa [List.getElem?_eq_none (by have := HL.out; omega)] at this
        subst hR
        have t1 : decide ((K : Int) < (n : Int)) = false := by simp; omega
        have t2 : decide (K < n) = false := by simp; omega
        go_wp2_with fail
        go_quiet (fail)
        go_wp2_with fail
        go_ret2
        exact ⟨rfl, HB.out.trans ((below_drewN HW.out _).mono HB.out.size)⟩
end Go.Proofs.Ytohiemdodffhoaa.SP

namespace Go.Proofs.Ytohiemdodffhoaa.SP
open Go.RowKit Go.Shelf
open SM (Sn Sb Vo)
set_option linter.unusedVariables false
set_option linter.unusedSimpArgs false
set_option maxRecDepth 100000

set_option maxHeartbeats 2000000 in
theorem place_any (A : Option Addr) (n c : Nat) (l : List Sn) (g s : Int) (W : World) (h : VotesIs W A n c l) (hr : SM.Rises l) (hn : n ≤ 2000) :
    Calls Try.prog 76 #[.slice A n c, .int .i64 g, .int .i64 s] W (PlcQ (SM.lpos l ⟨g, s, SM.vz⟩) (SM.here l ⟨g, s, SM.vz⟩) W) := by
  have CB := bsearch_any A n c l ⟨g, s, SM.vz⟩ W h hr hn
  generalize SM.lpos l ⟨g, s, SM.vz⟩ = K at CB ⊢
  generalize SM.here l ⟨g, s, SM.vz⟩ = R at CB ⊢
  unfold vsn SM.vz at CB
  simp only at CB
  have CB := Lib.hid CB
  clear h hr
  go_enter Try.func76, Try.ntmps76
  go_wp2_with fail
  refine (CB.out).mono ?_
  rintro e w1 ⟨rfl, hb⟩
  have HB := Lib.hid hb
  clear hb CB
  go_wp2_with fail
  go_ret2
  exact ⟨rfl, HB.out⟩
set_option maxHeartbeats 4000000 in
theorem voteat_any (A : Option Addr) (n c : Nat) (l : List Sn) (g s : Int) (W : World) (h : VotesIs W A n c l) (hr : SM.Rises l) (hn : n ≤ 2000) :
    Calls Try.prog 45 #[.slice A n c, .int .i64 g, .int .i64 s] W fun e w' =>
      e = .returned (.agg #[.int .i64 (SM.find l g s).p, .int .i64 (SM.find l g s).b, .string (SM.find l g s).v]) ∧ Below W.heap.size W w' := by
  have hb0 : Below W.heap.size W (W.alloc (.cells #[.int .i64 0, .int .i64 0, .string ⟨#[]⟩] 48)) := (Below.refl _ _).alloc (Nat.le_refl _) _
  have HB := Lib.hid hb0
  have X := Lib.hid (Box.new W 48 #[.int .i64 0, .int .i64 0, .string ⟨#[]⟩])
  have CP := place_any A n c l g s _ (h.below hb0) hr hn
  have HF := Lib.hid (SM.find_here hr ⟨g, s, SM.vz⟩)
  have HHL := SM.here_lt (l := l) (x := ⟨g, s, SM.vz⟩)
  simp only at HF
  obtain ⟨h1, hl, hnc, hcm, hf⟩ := h
  unfold maxLen at hcm
  have H1 := Lib.hid (h1.below hb0)
  have HL := Lib.hid hl
  have HFl := Lib.hid hf
  obtain ⟨o, ho⟩ : ∃ o, o = SM.find l g s := ⟨_, rfl⟩
  rw [← ho] at HF ⊢
  generalize SM.lpos l ⟨g, s, SM.vz⟩ = K at CP HF HHL
  generalize SM.here l ⟨g, s, SM.vz⟩ = R at CP HF HHL
  have CP := Lib.hid CP
  have HHL := Lib.hid HHL
  clear h1 hl hf hb0 ho hr
  go_enter Try.func45, Try.ntmps45
  go_upto_region 1 with (fail)
  generalize W.alloc (.cells #[.int .i64 0, .int .i64 0, .string ⟨#[]⟩] 48) = w1 at HB X CP H1 ⊢
  obtain ⟨g0, hg0⟩ : ∃ g0, W.heap.size = g0 := ⟨_, rfl⟩
  rw [hg0] at X
  simp only [hg0]
  have HG := Lib.hid hg0
  clear hg0
  go_wp2_with fail
  refine (CP.out).mono ?_
  rintro e w2 ⟨rfl, hb⟩
  have HB2 := Lib.hid (HB.out.trans (hb.mono HB.out.size))
  have X2 := Lib.hid (X.out.below hb X.out.lt)
  have H2 := Lib.hid (H1.out.below hb)
  clear hb CP HB X H1
  obtain ⟨y0, y1, y2, z0, z1, z2⟩ := X2.out.three
  cases R
  · obtain rfl : o = SM.vz := by
      rw [HF.out]
      rcases l[K]? with _ | y <;> rfl
    go_wp2_with fail
    exact bodyPost_ret (v := .agg #[.int .i64 0, .int .i64 0, .string ⟨#[]⟩]) (by simp [results, Try.results45, go_sem, y0, y1, y2]; try rfl) rfl ⟨rfl, below_put3 HB2.out (by have := HG.out; omega) _ _ _⟩
  · have hkl := HHL.out rfl
    obtain ⟨x, hx⟩ : ∃ x, l[K]? = some x := ⟨_, List.getElem?_eq_getElem hkl⟩
    obtain rfl : o = x.o := by rw [HF.out, hx]; rfl
    have hkn : K < n := by have := HL.out; omega
    obtain ⟨bl, oo, rfl⟩ := HFl.out (by omega)
    obtain ⟨a0, a1, a2, a3, a4⟩ := rdg_sn H2.out hx
    have hk0 : (0 : Int) ≤ (K : Int) := by omega
    have hkm : (K : Int) < (n : Int) := by omega
    clear hx HHL hkl HF
    go_wp2_with fail
    exact bodyPost_ret (v := .agg #[.int .i64 x.o.p, .int .i64 x.o.b, .string x.o.v]) (by simp [results, Try.results45, go_sem, y0, y1, y2]; try rfl) rfl ⟨rfl, below_put3 HB2.out (by have := HG.out; omega) _ _ _⟩
end Go.Proofs.Ytohiemdodffhoaa.SP

namespace Go.Proofs.Ytohiemdodffhoaa.SP
open Go.RowKit Go.Lib Go.Shelf
open SM (Sn Sb Vo)
set_option linter.unusedVariables false
set_option linter.unusedSimpArgs false
set_option maxRecDepth 100000

theorem flat_take5 : ∀ (l : List Sn) (k : Nat), flat sncell (l.take k) = (flat sncell l).take (k * 5)
  | [], k => by simp [flat]
  | x :: l, 0 => by simp [flat]
  | x :: l, k + 1 => by
    rw [List.take_succ_cons, flat_cons, flat_cons, flat_take5 l k, show (k + 1) * 5 = (sncell x).length + k * 5 by show _ = 5 + _; omega, List.take_length_add_append]
theorem flat_drop5 : ∀ (l : List Sn) (k : Nat), flat sncell (l.drop k) = (flat sncell l).drop (k * 5)
  | [], k => by simp [flat]
  | x :: l, 0 => by simp [flat]
  | x :: l, k + 1 => by
    rw [List.drop_succ_cons, flat_cons, flat_drop5 l k, show (k + 1) * 5 = (sncell x).length + k * 5 by show _ = 5 + _; omega, List.drop_length_add_append]
theorem delV_none (A : Option Addr) (n c i : Nat) (w : World) (hi : i ≤ n) (hnc : n ≤ c) (hcm : c ≤ maxLen) :
    Calls Try.prog 93 #[.slice A n c, .int .i64 i, .int .i64 i] w fun e w' => e = .returned (.slice A n c) ∧ w' = w := by
  unfold maxLen at hcm
  have hb : ((i : Int) == (i : Int)) = true := by simp
  go_enter Try.func93, Try.ntmps93
  go_wp2_with fail
  all_goals
    go_ret
    exact ⟨rfl, rfl⟩
set_option maxHeartbeats 1000000 in
theorem replV_ins (base n c i vb : Nat) (A : Option Addr) (xs vs : List Value) (w : World) (hi : i ≤ n) (hn : n ≤ 2000) (hbase : base ≤ w.heap.size) (ho : w.ownsRow base 75 5 (.slice A n c) n xs)
    (hv : Box w vb 75 vs.toArray) (hvl : vs.length = 5) (hvb : Value.ownBlock (.slice A n c) ≠ some vb) (h1 : ∀ u ∈ xs, u.oneCell' = true) (h1v : ∀ u ∈ vs, u.oneCell' = true) :
    Calls Try.prog 94 #[.slice A n c, .int .i64 i, .int .i64 i, .slice (some ⟨vb, 0, none⟩) 1 1] w (RowQ base (n + 1) (xs.take (i * 5) ++ (vs ++ xs.drop (i * 5))) (Value.ownBlock (.slice A n c)) w) := by
  obtain ⟨_, _, e, hnc, hcm⟩ := own_form ho
  injection e with e1 e2 e3
  subst e1
  subst e3
  have CI := insV_any base n c i vb A xs vs w hi hn hbase ho hv hvl hvb h1 h1v
  rw [List.append_assoc] at CI
  have CI := Lib.hid CI
  unfold maxLen at hcm
  have hb : ((i : Int) == (i : Int)) = true := by simp
  clear ho hv hvl hvb h1 h1v hbase
  by_cases hci : c = i
  · subst hci
    rcases A with _ | A
    all_goals
      go_enter Try.func94, Try.ntmps94
      go_upto_region 3 with (fail)
      go_wp2_with fail
      refine (CI.out).mono ?_
      rintro e w1 ⟨A', c', rfl, o, g, _⟩
      have HO := Lib.hid (And.intro o g)
      clear o g CI
      go_wp2_with fail
      go_ret
      exact ⟨_, _, rfl, HO.out.1, HO.out.2⟩
  · rcases A with _ | A
    all_goals
      go_enter Try.func94, Try.ntmps94
      go_upto_region 3 with (fail)
      go_wp2_with fail
      refine (CI.out).mono ?_
      rintro e w1 ⟨A', c', rfl, o, g, _⟩
      have HO := Lib.hid (And.intro o g)
      clear o g CI
      go_wp2_with fail
      go_ret
      exact ⟨_, _, rfl, HO.out.1, HO.out.2⟩
theorem rowq_more {base m : Nat} {xs : List Value} {ob : Option Nat} {w w1 : World} {e : Ending} {w' : World} (hb : Below w.heap.size w w1) (h : RowQ base m xs ob w1 e w') : RowQ base m xs ob w e w' := by
  obtain ⟨A, c, he, ho, hg⟩ := h
  exact ⟨A, c, he, ho, grown_more (grown_of_below hb ob) hg (.inl rfl)⟩
/-- Replace of one, of whatever room -/
theorem replV_one (base n c i vb : Nat) (A : Option Addr) (xs vs : List Value) (w : World) (hi : i < n) (hn : n ≤ 2000) (ho : w.ownsRow base 75 5 (.slice A n c) n xs)
    (hv : Box w vb 75 vs.toArray) (hvl : vs.length = 5) (hvb : Value.ownBlock (.slice A n c) ≠ some vb) (h1 : ∀ u ∈ xs, u.oneCell' = true) (h1v : ∀ u ∈ vs, u.oneCell' = true) :
    Calls Try.prog 94 #[.slice A n c, .int .i64 i, .int .i64 ((i : Int) + 1), .slice (some ⟨vb, 0, none⟩) 1 1] w (RowQ base n (xs.take (i * 5) ++ vs ++ xs.drop ((i + 1) * 5)) (Value.ownBlock (.slice A n c)) w) := by
  have hl := ho.1
  rcases ho.2 with ⟨_, h0⟩ | ⟨g, cap, cur, hs, hb, hx, hnc', hcm', hsz, htk⟩
  · omega
  · injection hs with e1 e2 e3
    subst e1
    subst e3
    have hne : vb ≠ g := by intro h; apply hvb; rw [h]; rfl
    by_cases hin : i + 1 = n
    · exact replV_end base g n c i vb xs vs cur w hin hn hnc' hcm' hb hx hsz htk hl hv hvl h1v
    · exact replV_mid base g n c i vb xs vs cur w (by omega) hn hnc' hcm' hb hx hsz htk hl hv hvl hne h1 h1v
theorem delV_one (base n c i : Nat) (A : Option Addr) (xs : List Value) (w : World) (hi : i < n) (hn : n ≤ 2000) (ho : w.ownsRow base 75 5 (.slice A n c) n xs) (h1 : ∀ u ∈ xs, u.oneCell' = true) :
    Calls Try.prog 93 #[.slice A n c, .int .i64 i, .int .i64 ((i : Int) + 1)] w (RowQ base (n - 1) (xs.take (i * 5) ++ xs.drop ((i + 1) * 5)) (Value.ownBlock (.slice A n c)) w) := by
  have hl := ho.1
  rcases ho.2 with ⟨_, h0⟩ | ⟨g, cap, cur, hs, hb, hx, hnc', hcm', hsz, htk⟩
  · omega
  · injection hs with e1 e2 e3
    subst e1
    subst e3
    exact delV_any base g n c i xs cur w hi hn hnc' hcm' hb hx hsz htk hl h1
end Go.Proofs.Ytohiemdodffhoaa.SP

namespace Go.Proofs.Ytohiemdodffhoaa.SP
open Go.RowKit Go.Lib Go.Shelf
open SM (Sn Sb Vo)
set_option linter.unusedVariables false
set_option linter.unusedSimpArgs false
set_option maxRecDepth 100000

set_option maxHeartbeats 4000000 in
theorem put_any (base n c : Nat) (A : Option Addr) (l : List Sn) (x : Sn) (w : World) (hbase : base ≤ w.heap.size) (ho : w.ownsRow base 75 5 (.slice A n c) n (flat sncell l)) (hl : l.length = n) (hr : SM.Rises l) (hn : n ≤ 1999) (hxo : x.o = SM.vz ∨ x.o.p ≠ 0) :
    Calls Try.prog 73 #[.slice A n c, vsn x] w (RowQ base (SM.put l x).length (flat sncell (SM.put l x)) (Value.ownBlock (.slice A n c)) w) := by
  obtain ⟨_, _, e, hnc, hcm⟩ := own_form ho
  injection e with e1 e2 e3
  subst e1
  subst e3
  have hvs : VotesIs w A n c l := votes_own ho hl hnc hcm
  have hb0 : Below w.heap.size w (w.alloc (.cells #[.int .i64 x.g, .int .i64 x.s, .int .i64 x.o.p, .int .i64 x.o.b, .string x.o.v] 75)) := (Below.refl _ _).alloc (Nat.le_refl _) _
  have HB := Lib.hid hb0
  have X := Lib.hid (Box.new w 75 #[.int .i64 x.g, .int .i64 x.s, .int .i64 x.o.p, .int .i64 x.o.b, .string x.o.v])
  have CP := place_any A n c l x.g x.s _ (hvs.below hb0) hr (by omega)
  have hK : SM.lpos l ⟨x.g, x.s, SM.vz⟩ = SM.lpos l x := rfl
  have hH : SM.here l ⟨x.g, x.s, SM.vz⟩ = SM.here l x := rfl
  rw [hK, hH] at CP
  have HP := Lib.hid (SM.put_pos hr x)
  have HHL := Lib.hid (SM.here_lt (l := l) (x := x))
  have hkl := SM.lpos_le l x
  rw [hl] at hkl
  have HO := Lib.hid ho
  have HL := Lib.hid hl
  have h1 : ∀ u ∈ flat sncell l, u.oneCell' = true := one_flat sn_one _
  have H1 := Lib.hid h1
  have HXO := Lib.hid hxo
  generalize SM.lpos l x = K at CP HP HHL hkl
  generalize SM.here l x = R at CP HP HHL
  obtain ⟨PL, hPL⟩ : ∃ PL, PL = SM.put l x := ⟨_, rfl⟩
  rw [← hPL] at HP ⊢
  clear hPL
  have CP := Lib.hid CP
  unfold vsn
  unfold maxLen at hcm
  clear ho hvs hr hb0 hK hH h1 hxo hl
  go_enter Try.func73, Try.ntmps73
  go_upto_region 1 with (fail)
  generalize w.alloc (.cells #[.int .i64 x.g, .int .i64 x.s, .int .i64 x.o.p, .int .i64 x.o.b, .string x.o.v] 75) = w1 at HB X CP ⊢
  obtain ⟨g0, hg0⟩ : ∃ g0, w.heap.size = g0 := ⟨_, rfl⟩
  rw [hg0] at X
  simp only [hg0]
  have HG := Lib.hid hg0
  clear hg0
  obtain ⟨x0, x1, x2, x3, x4⟩ := sn_five X.out
  go_wp2_with fail
  refine (CP.out).mono ?_
  rintro e w2 ⟨rfl, hb⟩
  have X2 := Lib.hid (X.out.below hb X.out.lt)
  have HB2 := Lib.hid (show Below w.heap.size w w2 from HB.out.trans (hb.mono HB.out.size))
  have HO2 := Lib.hid (own_below3 HO.out HB2.out)
  clear hb CP X HB x0 x1 x2 x3 x4
  obtain ⟨x0, x1, x2, x3, x4⟩ := sn_five X2.out
  have hsz2 := HB2.out.size
  have LIT := Lib.hid (show Below w.heap.size w (w2.alloc (.cells #[.int .i64 x.g, .int .i64 x.s, .int .i64 x.o.p, .int .i64 x.o.b, .string x.o.v] 75)) from HB2.out.alloc hsz2 _)
  have LV := Lib.hid (Box.new w2 75 #[.int .i64 x.g, .int .i64 x.s, .int .i64 x.o.p, .int .i64 x.o.b, .string x.o.v])
  have LO := Lib.hid (own_below3 HO2.out ((Below.refl _ _).alloc (Nat.le_refl _) (.cells #[.int .i64 x.g, .int .i64 x.s, .int .i64 x.o.p, .int .i64 x.o.b, .string x.o.v] 75)))
  have LB := Lib.hid (show Value.ownBlock (.slice A n c) ≠ some w2.heap.size from fun h => by
    obtain ⟨_, cur, hx⟩ := own_block HO2.out h
    exact absurd hx.lt (Nat.lt_irrefl _))
  have h1v : ∀ u ∈ sncell x, u.oneCell' = true := sn_one x
  have H1V := Lib.hid h1v
  clear h1v
  have kI : (K : Int) ≤ (n : Int) := by omega
  have kN : (0 : Int) ≤ (K : Int) := by omega
  cases R
  · by_cases hp : x.o.p = 0
    · have hz : x.o = SM.vz := HXO.out.resolve_right (fun h => h hp)
      have HPE := Lib.hid (show PL = l by rw [HP.out, if_pos hz]; simp)
      have bp : (x.o.p == 0) = true := by simp [hp]
      clear hp hz HP
      go_wp2_with fail
      refine (delV_none A n c K w2 hkl hnc (by unfold maxLen; omega)).mono ?_
      rintro e w3 ⟨rfl, rfl⟩
      go_wp2_with fail
      go_ret
      rw [HPE.out, HL.out]
      exact ⟨A, c, rfl, HO2.out, grown_of_below HB2.out _⟩
    · have hz : x.o ≠ SM.vz := fun h => hp (by rw [h]; rfl)
      have HPE := Lib.hid (show PL = l.take K ++ [x] ++ l.drop K by rw [HP.out, if_neg hz]; simp)
      have bp : (x.o.p == 0) = false := by simp [hp]
      have CR := Lib.hid (replV_ins base n c K w2.heap.size A (flat sncell l) (sncell x) _ hkl (by omega) (Nat.le_trans hbase LIT.out.size) LO.out LV.out rfl LB.out H1.out H1V.out)
      clear hp hz HP
      go_wp2_with fail
      refine (CR.out).mono ?_
      rintro e w3 hq
      have HQ := Lib.hid (rowq_more LIT.out hq)
      obtain ⟨A', c', rfl, _, _⟩ := hq
      clear CR
      go_wp2_with fail
      go_ret
      have hq := HQ.out
      have hpl : PL.length = n + 1 := by rw [HPE.out]; simp [HL.out]; omega
      rw [← List.append_assoc, ← flat_take5, ← flat_drop5, ← flat_one (f := sncell) x, ← flat_append, ← flat_append, ← HPE.out] at hq
      rw [hpl]
      exact hq
  · have hkn := HHL.out rfl
    rw [HL.out] at hkn
    by_cases hp : x.o.p = 0
    · have hz : x.o = SM.vz := HXO.out.resolve_right (fun h => h hp)
      have HPE := Lib.hid (show PL = l.take K ++ l.drop (K + 1) by rw [HP.out, if_pos hz]; simp)
      have bp : (x.o.p == 0) = true := by simp [hp]
      have CD := Lib.hid (delV_one base n c K A (flat sncell l) w2 hkn (by omega) HO2.out H1.out)
      clear hp hz HP
      go_wp2_with fail
      refine (CD.out).mono ?_
      rintro e w3 hq
      have HQ := Lib.hid (rowq_more HB2.out hq)
      obtain ⟨A', c', rfl, _, _⟩ := hq
      clear CD
      go_wp2_with fail
      go_ret
      have hq := HQ.out
      have hpl : n - 1 = PL.length := by rw [HPE.out]; simp [HL.out]; omega
      rw [← flat_take5, ← flat_drop5, ← flat_append, ← HPE.out, hpl] at hq
      rw [hpl]
      exact hq
    · have hz : x.o ≠ SM.vz := fun h => hp (by rw [h]; rfl)
      have HPE := Lib.hid (show PL = l.take K ++ [x] ++ l.drop (K + 1) by rw [HP.out, if_neg hz]; simp)
      have bp : (x.o.p == 0) = false := by simp [hp]
      have CR := Lib.hid (replV_one base n c K w2.heap.size A (flat sncell l) (sncell x) _ hkn (by omega) LO.out LV.out rfl LB.out H1.out H1V.out)
      clear hp hz HP
      go_wp2_with fail
      refine (CR.out).mono ?_
      rintro e w3 hq
      have HQ := Lib.hid (rowq_more LIT.out hq)
      obtain ⟨A', c', rfl, _, _⟩ := hq
      clear CR
      go_wp2_with fail
      go_ret
      have hq := HQ.out
      have hpl : n = PL.length := by rw [HPE.out]; simp [HL.out]; omega
      rw [← flat_take5, ← flat_drop5, ← flat_one (f := sncell) x, ← flat_append, ← flat_append, ← HPE.out] at hq
      rw [← hpl]
      exact hq
end Go.Proofs.Ytohiemdodffhoaa.SP

namespace Go.Proofs.Ytohiemdodffhoaa.SP
open Go.RowKit Go.Shelf
open SM (Sn Sb Vo)
set_option linter.unusedVariables false
set_option linter.unusedSimpArgs false
set_option maxRecDepth 100000

def BoolB (b : Bool) (w : World) (e : Ending) (w' : World) : Prop := e = .returned (.bool b) ∧ Below w.heap.size w w'
set_option maxHeartbeats 1000000 in
theorem isgroup_any (A B : Option Addr) (n c m d : Nat) (g : Int) (w : World) (hn : n ≤ maxLen) :
    Calls Try.prog 44 #[.agg #[.slice A n c, .slice B m d], .int .i64 g] w (BoolB (decide (0 ≤ g ∧ g < n)) w) := by
  unfold maxLen at hn
  have HB := Lib.hid (show Below w.heap.size w (w.alloc (.cells #[.slice A n c, .slice B m d] 25)) from (Below.refl _ _).alloc (Nat.le_refl _) _)
  obtain ⟨b, hb⟩ : ∃ b, b = decide (0 ≤ g ∧ g < (n : Int)) := ⟨_, rfl⟩
  rw [← hb]
  by_cases h1 : 0 ≤ g
  · have t1 : decide (0 ≤ g) = true := by simpa using h1
    have t2 : decide (g < (n : Int)) = b := by rw [hb]; exact decide_eq_decide.2 ⟨fun h => ⟨h1, h⟩, fun h => h.2⟩
    have HT := Lib.hid t2
    clear hb t2
    go_enter Try.func44, Try.ntmps44
    go_wp2_with fail
    go_ret
    refine ⟨?_, HB.out⟩
    rw [← HT.out]
    rfl
  · have t1 : decide (0 ≤ g) = false := by simpa using h1
    obtain rfl : b = false := by rw [hb, decide_eq_false_iff_not]; exact fun h => h1 h.1
    clear hb
    go_enter Try.func44, Try.ntmps44
    go_wp2_with fail
    go_ret
    exact ⟨rfl, HB.out⟩
theorem llen_of {ls : List (List ByteArray)} {g : Nat} {l : List ByteArray} (h : ls[g]? = some l) : SM.llen ls g = l.length := by unfold SM.llen; simp [h]
set_option maxHeartbeats 16000000 in
theorem isvote_any (A B : Option Addr) (c m d : Nat) (ls : List (List ByteArray)) (x : Sn) (W : World) (hL : LogsIs W A ls.length c ls) (hx : SnFit x) :
    Calls Try.prog 79 #[.agg #[.slice A ls.length c, .slice B m d], vsn x] W (BoolB (decide (SM.snOk ls x)) W) := by
  obtain ⟨m0, m1, m2⟩ := rows_rd2 hL
  obtain ⟨r, hr⟩ : ∃ r, r = decide (SM.snOk ls x) := ⟨_, rfl⟩
  rw [← hr]
  unfold vsn
  obtain ⟨g, s, ⟨p, b, v⟩⟩ := x
  obtain ⟨fg, fs, ⟨fp1, fp2⟩, ⟨fb1, fb2⟩, fv⟩ := hx
  simp only at fg fs fp1 fp2 fb1 fb2 fv ⊢
  have HM := Lib.hid (show r = decide (SM.snOk ls ⟨g, s, ⟨p, b, v⟩⟩) from hr)
  clear hr
  have hb0 : Below W.heap.size W ((W.alloc (.cells #[.slice A ls.length c, .slice B m d] 25)).alloc (.cells #[.int .i64 g, .int .i64 s, .int .i64 p, .int .i64 b, .string v] 75)) := ((Below.refl _ _).alloc (Nat.le_refl _) _).alloc (by simp) _
  have HB := Lib.hid hb0
  have X := Lib.hid ((Box.new W 25 #[.slice A ls.length c, .slice B m d]).alloc (.cells #[.int .i64 g, .int .i64 s, .int .i64 p, .int .i64 b, .string v] 75))
  have Y := Lib.hid (Box.new_at (w := W.alloc (.cells #[.slice A ls.length c, .slice B m d] 25)) (t := 75) (cs := #[.int .i64 g, .int .i64 s, .int .i64 p, .int .i64 b, .string v]) (W.heap.size + 1) (by simp))
  have HL := Lib.hid (hL.below hb0)
  have CG := Lib.hid (fun (w : World) => isgroup_any A B ls.length c m d g w (Nat.le_trans m1 m2))
  have CV := Lib.hid (fun (e : Int) (h : VP.ChkIs p b v e) (w : World) => VP.vcheck_any (e := e) w fp1 fp2 fb1 fb2 fv h)
  unfold maxLen at m2
  clear hL hb0 m0
  go_enter Try.func79, Try.ntmps79
  go_upto_region 1 with (fail)
  generalize (W.alloc (.cells #[.slice A ls.length c, .slice B m d] 25)).alloc (.cells #[.int .i64 g, .int .i64 s, .int .i64 p, .int .i64 b, .string v] 75) = w1 at HB X Y HL ⊢
  generalize W.heap.size = g0 at X Y ⊢
  have bb1 : Below w1.heap.size w1 w1.drew := (Below.refl _ _).drew
  by_cases hg : 0 ≤ g ∧ g < (ls.length : Int)
  case neg =>
    obtain rfl : r = false := by rw [HM.out, decide_eq_false_iff_not]; exact fun h => hg ⟨h.1, h.2.1⟩
    rw [decide_eq_false hg] at CG
    clear HL hg
    have HSS := Lib.hid (show ∀ w', Below w1.heap.size w1 w' → ((w'.cell? ⟨g0, 0, none⟩ = some (.slice A ls.length c) ∧ w'.cell? ⟨g0, 1, none⟩ = some (.slice B m d)) ∧ (w'.cell? ⟨g0 + 1, 0, none⟩ = some (.int .i64 g) ∧ w'.cell? ⟨g0 + 1, 1, none⟩ = some (.int .i64 s) ∧ w'.cell? ⟨g0 + 1, 2, none⟩ = some (.int .i64 p) ∧ w'.cell? ⟨g0 + 1, 3, none⟩ = some (.int .i64 b) ∧ w'.cell? ⟨g0 + 1, 4, none⟩ = some (.string v))) from fun w' hq => ⟨⟨(X.out.below hq X.out.lt).cell 0, (X.out.below hq X.out.lt).cell 1⟩, sn_five (Y.out.below hq Y.out.lt)⟩)
    obtain ⟨⟨_, _⟩, ⟨_, _, _, _, _⟩⟩ := HSS.out w1 (Below.refl _ _)
    clear X Y
    as_aux_lemma =>
      obtain ⟨ud, hud⟩ : ∃ ud, ud = w1.drew := ⟨_, rfl⟩
      refine wp_region_held_drew (S := fun w' => ((w'.cell? ⟨g0, 0, none⟩ = some (.slice A ls.length c) ∧ w'.cell? ⟨g0, 1, none⟩ = some (.slice B m d)) ∧ (w'.cell? ⟨g0 + 1, 0, none⟩ = some (.int .i64 g) ∧ w'.cell? ⟨g0 + 1, 1, none⟩ = some (.int .i64 s) ∧ w'.cell? ⟨g0 + 1, 2, none⟩ = some (.int .i64 p) ∧ w'.cell? ⟨g0 + 1, 3, none⟩ = some (.int .i64 b) ∧ w'.cell? ⟨g0 + 1, 4, none⟩ = some (.string v)))) (by kernel_rfl) (HSS.out _ bb1) (fun hHeld => ?_)
      rw [← hud] at bb1 hHeld ⊢
      clear hud
      refine qT 0 ?_; try simp only [Act.put, qq]
      refine qT 1 ?_; try simp only [Act.put, qq]
      refine qT 2 ?_; try simp only [Act.put, qq]
      refine wpAnyH_ready (rs := [3]) (by kernel_rfl) (by simp) ?_
      refine AllReadyH.cons rfl (fun K hK => ?_) AllReadyH.nil
      go_simp
      refine (CG.out _).mono ?_
      rintro e1 w4 ⟨rfl, hb4⟩
      have bb2 : Below w1.heap.size w1 w4 := bb1.trans (hb4.mono bb1.size)
      clear hb4
      refine hK.out _ _ (HSS.out _ bb2) (fun hHeld => ?_)
      clear hK
      try simp only [Act.put, qq]
      refine qT 4 ?_; try simp only [Act.put, qq]
      refine qS 5 ?_; try simp only [Act.put, qq]
      refine qS 6 ?_; try simp only [Act.put, qq]
      refine qS 7 ?_; try simp only [Act.put, qq]
      refine qS 8 ?_; try simp only [Act.put, qq]
      refine qS 9 ?_; try simp only [Act.put, qq]
      refine qS 10 ?_; try simp only [Act.put, qq]
      refine qS 11 ?_; try simp only [Act.put, qq]
      refine qS 12 ?_; try simp only [Act.put, qq]
      refine qS 13 ?_; try simp only [Act.put, qq]
      refine qS 14 ?_; try simp only [Act.put, qq]
      refine qT 15 ?_; try simp only [Act.put, qq]
      refine qT 16 ?_; try simp only [Act.put, qq]
      refine qS 17 ?_; try simp only [Act.put, qq]
      refine qS 18 ?_; try simp only [Act.put, qq]
      refine qS 19 ?_; try simp only [Act.put, qq]
      refine qT 20 ?_; try simp only [Act.put, qq]
      refine qT 21 ?_; try simp only [Act.put, qq]
      refine qS 22 ?_; try simp only [Act.put, qq]
      refine qS 23 ?_; try simp only [Act.put, qq]
      refine qS 24 ?_; try simp only [Act.put, qq]
      refine qS 25 ?_; try simp only [Act.put, qq]
      refine qT 26 ?_; try simp only [Act.put, qq]
      refine qT 27 ?_; try simp only [Act.put, qq]
      refine qS 28 ?_; try simp only [Act.put, qq]
      refine qS 29 ?_; try simp only [Act.put, qq]
      refine qS 30 ?_; try simp only [Act.put, qq]
      refine qS 31 ?_; try simp only [Act.put, qq]
      refine qT 32 ?_; try simp only [Act.put, qq]
      refine qT 33 ?_; try simp only [Act.put, qq]
      refine wpAnyH_done (by kernel_rfl) ?_ _
      clear hHeld HSS
      go_wp2_with fail
      go_ret
      exact ⟨rfl, HB.out.trans (bb2.mono HB.out.size)⟩
  obtain ⟨gi, rfl⟩ : ∃ gi : Nat, g = gi := ⟨g.toNat, by omega⟩
  have hgl : gi < ls.length := by omega
  rw [decide_eq_true hg] at CG
  clear hg
  obtain ⟨l, hl⟩ : ∃ l, ls[gi]? = some l := ⟨_, List.getElem?_eq_getElem hgl⟩
  obtain ⟨ad, C, e, rfl, _, q1, _, q3, q4⟩ := logs_get HL.out hl
  have hrb := cell_block q1
  rw [block_of_add] at hrb
  unfold maxLen at q4
  have hln := llen_of hl
  have HG := Lib.hid hgl
  have i0 : (0 : Int) ≤ (gi : Int) := by omega
  have i1 : (gi : Int) < (ls.length : Int) := by omega
  clear hl HL
  by_cases c4 : (l.length : Int) < s
  case neg =>
    obtain rfl : r = false := by rw [HM.out, decide_eq_false_iff_not]; exact fun h => c4 (by have := h.2.2.2.1; simp only [hln] at this; exact this)
    have t4 : decide ((l.length : Int) < s) = false := by simpa using c4
    clear hln
    have HSS := Lib.hid (show ∀ w', Below w1.heap.size w1 w' → (((w'.cell? ⟨g0, 0, none⟩ = some (.slice (some ad) ls.length c) ∧ w'.cell? ⟨g0, 1, none⟩ = some (.slice B m d)) ∧ (w'.cell? ⟨g0 + 1, 0, none⟩ = some (.int .i64 (gi : Int)) ∧ w'.cell? ⟨g0 + 1, 1, none⟩ = some (.int .i64 s) ∧ w'.cell? ⟨g0 + 1, 2, none⟩ = some (.int .i64 p) ∧ w'.cell? ⟨g0 + 1, 3, none⟩ = some (.int .i64 b) ∧ w'.cell? ⟨g0 + 1, 4, none⟩ = some (.string v))) ∧ w'.cell? (ad.add gi) = some (.slice C l.length e)) from fun w' hq => ⟨⟨⟨(X.out.below hq X.out.lt).cell 0, (X.out.below hq X.out.lt).cell 1⟩, sn_five (Y.out.below hq Y.out.lt)⟩, (hq.cell (by rw [block_of_add]; exact hrb)).trans q1⟩)
    obtain ⟨⟨⟨_, _⟩, ⟨_, _, _, _, _⟩⟩, _⟩ := HSS.out w1 (Below.refl _ _)
    clear X Y
    as_aux_lemma =>
      obtain ⟨ud, hud⟩ : ∃ ud, ud = w1.drew := ⟨_, rfl⟩
      refine wp_region_held_drew (S := fun w' => (((w'.cell? ⟨g0, 0, none⟩ = some (.slice (some ad) ls.length c) ∧ w'.cell? ⟨g0, 1, none⟩ = some (.slice B m d)) ∧ (w'.cell? ⟨g0 + 1, 0, none⟩ = some (.int .i64 (gi : Int)) ∧ w'.cell? ⟨g0 + 1, 1, none⟩ = some (.int .i64 s) ∧ w'.cell? ⟨g0 + 1, 2, none⟩ = some (.int .i64 p) ∧ w'.cell? ⟨g0 + 1, 3, none⟩ = some (.int .i64 b) ∧ w'.cell? ⟨g0 + 1, 4, none⟩ = some (.string v))) ∧ w'.cell? (ad.add gi) = some (.slice C l.length e))) (by kernel_rfl) (HSS.out _ bb1) (fun hHeld => ?_)
      rw [← hud] at bb1 hHeld ⊢
      clear hud
      refine qT 0 ?_; try simp only [Act.put, qq]
      refine qT 1 ?_; try simp only [Act.put, qq]
      refine qT 2 ?_; try simp only [Act.put, qq]
      refine wpAnyH_ready (rs := [3]) (by kernel_rfl) (by simp) ?_
      refine AllReadyH.cons rfl (fun K hK => ?_) AllReadyH.nil
      go_simp
      refine (CG.out _).mono ?_
      rintro e1 w4 ⟨rfl, hb4⟩
      have bb2 : Below w1.heap.size w1 w4 := bb1.trans (hb4.mono bb1.size)
      clear hb4
      refine hK.out _ _ (HSS.out _ bb2) (fun hHeld => ?_)
      clear hK
      try simp only [Act.put, qq]
      refine qT 4 ?_; try simp only [Act.put, qq]
      refine qT 5 ?_; try simp only [Act.put, qq]
      refine qT 6 ?_; try simp only [Act.put, qq]
      refine qT 7 ?_; try simp only [Act.put, qq]
      refine qT 8 ?_; try simp only [Act.put, qq]
      refine qT 9 ?_; try simp only [Act.put, qq]
      refine qT 10 ?_; try simp only [Act.put, qq]
      refine qT 11 ?_; try simp only [Act.put, qq]
      refine qT 12 ?_; try simp only [Act.put, qq]
      refine qT 13 ?_; try simp only [Act.put, qq]
      refine qT 14 ?_; try simp only [Act.put, qq]
      refine qT 15 ?_; try simp only [Act.put, qq]
      refine qT 16 ?_; try simp only [Act.put, qq]
      refine qS 17 ?_; try simp only [Act.put, qq]
      refine qS 18 ?_; try simp only [Act.put, qq]
      refine qS 19 ?_; try simp only [Act.put, qq]
      refine qT 20 ?_; try simp only [Act.put, qq]
      refine qT 21 ?_; try simp only [Act.put, qq]
      refine qS 22 ?_; try simp only [Act.put, qq]
      refine qS 23 ?_; try simp only [Act.put, qq]
      refine qS 24 ?_; try simp only [Act.put, qq]
      refine qS 25 ?_; try simp only [Act.put, qq]
      refine qT 26 ?_; try simp only [Act.put, qq]
      refine qT 27 ?_; try simp only [Act.put, qq]
      refine qS 28 ?_; try simp only [Act.put, qq]
      refine qS 29 ?_; try simp only [Act.put, qq]
      refine qS 30 ?_; try simp only [Act.put, qq]
      refine qS 31 ?_; try simp only [Act.put, qq]
      refine qT 32 ?_; try simp only [Act.put, qq]
      refine qT 33 ?_; try simp only [Act.put, qq]
      refine wpAnyH_done (by kernel_rfl) ?_ _
      clear hHeld HSS
      go_wp2_with fail
      go_ret
      exact ⟨rfl, HB.out.trans (bb2.mono HB.out.size)⟩
  have t4 : decide ((l.length : Int) < s) = true := by simpa using c4
  by_cases c3 : s ≤ 200
  case neg =>
    obtain rfl : r = false := by rw [HM.out, decide_eq_false_iff_not]; exact fun h => c3 h.2.2.1
    have t3 : decide (s ≤ 200) = false := by simpa using c3
    clear hln
    have HSS := Lib.hid (show ∀ w', Below w1.heap.size w1 w' → (((w'.cell? ⟨g0, 0, none⟩ = some (.slice (some ad) ls.length c) ∧ w'.cell? ⟨g0, 1, none⟩ = some (.slice B m d)) ∧ (w'.cell? ⟨g0 + 1, 0, none⟩ = some (.int .i64 (gi : Int)) ∧ w'.cell? ⟨g0 + 1, 1, none⟩ = some (.int .i64 s) ∧ w'.cell? ⟨g0 + 1, 2, none⟩ = some (.int .i64 p) ∧ w'.cell? ⟨g0 + 1, 3, none⟩ = some (.int .i64 b) ∧ w'.cell? ⟨g0 + 1, 4, none⟩ = some (.string v))) ∧ w'.cell? (ad.add gi) = some (.slice C l.length e)) from fun w' hq => ⟨⟨⟨(X.out.below hq X.out.lt).cell 0, (X.out.below hq X.out.lt).cell 1⟩, sn_five (Y.out.below hq Y.out.lt)⟩, (hq.cell (by rw [block_of_add]; exact hrb)).trans q1⟩)
    obtain ⟨⟨⟨_, _⟩, ⟨_, _, _, _, _⟩⟩, _⟩ := HSS.out w1 (Below.refl _ _)
    clear X Y
    as_aux_lemma =>
      obtain ⟨ud, hud⟩ : ∃ ud, ud = w1.drew := ⟨_, rfl⟩
      refine wp_region_held_drew (S := fun w' => (((w'.cell? ⟨g0, 0, none⟩ = some (.slice (some ad) ls.length c) ∧ w'.cell? ⟨g0, 1, none⟩ = some (.slice B m d)) ∧ (w'.cell? ⟨g0 + 1, 0, none⟩ = some (.int .i64 (gi : Int)) ∧ w'.cell? ⟨g0 + 1, 1, none⟩ = some (.int .i64 s) ∧ w'.cell? ⟨g0 + 1, 2, none⟩ = some (.int .i64 p) ∧ w'.cell? ⟨g0 + 1, 3, none⟩ = some (.int .i64 b) ∧ w'.cell? ⟨g0 + 1, 4, none⟩ = some (.string v))) ∧ w'.cell? (ad.add gi) = some (.slice C l.length e))) (by kernel_rfl) (HSS.out _ bb1) (fun hHeld => ?_)
      rw [← hud] at bb1 hHeld ⊢
      clear hud
      refine qT 0 ?_; try simp only [Act.put, qq]
      refine qT 1 ?_; try simp only [Act.put, qq]
      refine qT 2 ?_; try simp only [Act.put, qq]
      refine wpAnyH_ready (rs := [3]) (by kernel_rfl) (by simp) ?_
      refine AllReadyH.cons rfl (fun K hK => ?_) AllReadyH.nil
      go_simp
      refine (CG.out _).mono ?_
      rintro e1 w4 ⟨rfl, hb4⟩
      have bb2 : Below w1.heap.size w1 w4 := bb1.trans (hb4.mono bb1.size)
      clear hb4
      refine hK.out _ _ (HSS.out _ bb2) (fun hHeld => ?_)
      clear hK
      try simp only [Act.put, qq]
      refine qT 4 ?_; try simp only [Act.put, qq]
      refine qT 5 ?_; try simp only [Act.put, qq]
      refine qT 6 ?_; try simp only [Act.put, qq]
      refine qT 7 ?_; try simp only [Act.put, qq]
      refine qT 8 ?_; try simp only [Act.put, qq]
      refine qT 9 ?_; try simp only [Act.put, qq]
      refine qT 10 ?_; try simp only [Act.put, qq]
      refine qT 11 ?_; try simp only [Act.put, qq]
      refine qT 12 ?_; try simp only [Act.put, qq]
      refine qT 13 ?_; try simp only [Act.put, qq]
      refine qT 14 ?_; try simp only [Act.put, qq]
      refine qT 15 ?_; try simp only [Act.put, qq]
      refine qT 16 ?_; try simp only [Act.put, qq]
      refine qT 17 ?_; try simp only [Act.put, qq]
      refine qT 18 ?_; try simp only [Act.put, qq]
      refine qT 19 ?_; try simp only [Act.put, qq]
      refine qT 20 ?_; try simp only [Act.put, qq]
      refine qT 21 ?_; try simp only [Act.put, qq]
      refine qS 22 ?_; try simp only [Act.put, qq]
      refine qS 23 ?_; try simp only [Act.put, qq]
      refine qS 24 ?_; try simp only [Act.put, qq]
      refine qS 25 ?_; try simp only [Act.put, qq]
      refine qT 26 ?_; try simp only [Act.put, qq]
      refine qT 27 ?_; try simp only [Act.put, qq]
      refine qS 28 ?_; try simp only [Act.put, qq]
      refine qS 29 ?_; try simp only [Act.put, qq]
      refine qS 30 ?_; try simp only [Act.put, qq]
      refine qS 31 ?_; try simp only [Act.put, qq]
      refine qT 32 ?_; try simp only [Act.put, qq]
      refine qT 33 ?_; try simp only [Act.put, qq]
      refine wpAnyH_done (by kernel_rfl) ?_ _
      clear hHeld HSS
      go_wp2_with fail
      go_ret
      exact ⟨rfl, HB.out.trans (bb2.mono HB.out.size)⟩
  have t3 : decide (s ≤ 200) = true := by simpa using c3
  by_cases c5 : VM.may p b v
  case neg =>
    obtain rfl : r = false := by rw [HM.out, decide_eq_false_iff_not]; exact fun h => c5 h.2.2.2.2.1
    have CV2 := Lib.hid (CV.out 8 (.inr ⟨c5, rfl⟩))
    clear hln c5
    have HSS := Lib.hid (show ∀ w', Below w1.heap.size w1 w' → (((w'.cell? ⟨g0, 0, none⟩ = some (.slice (some ad) ls.length c) ∧ w'.cell? ⟨g0, 1, none⟩ = some (.slice B m d)) ∧ (w'.cell? ⟨g0 + 1, 0, none⟩ = some (.int .i64 (gi : Int)) ∧ w'.cell? ⟨g0 + 1, 1, none⟩ = some (.int .i64 s) ∧ w'.cell? ⟨g0 + 1, 2, none⟩ = some (.int .i64 p) ∧ w'.cell? ⟨g0 + 1, 3, none⟩ = some (.int .i64 b) ∧ w'.cell? ⟨g0 + 1, 4, none⟩ = some (.string v))) ∧ w'.cell? (ad.add gi) = some (.slice C l.length e)) from fun w' hq => ⟨⟨⟨(X.out.below hq X.out.lt).cell 0, (X.out.below hq X.out.lt).cell 1⟩, sn_five (Y.out.below hq Y.out.lt)⟩, (hq.cell (by rw [block_of_add]; exact hrb)).trans q1⟩)
    obtain ⟨⟨⟨_, _⟩, ⟨_, _, _, _, _⟩⟩, _⟩ := HSS.out w1 (Below.refl _ _)
    clear X Y
    as_aux_lemma =>
      obtain ⟨ud, hud⟩ : ∃ ud, ud = w1.drew := ⟨_, rfl⟩
      refine wp_region_held_drew (S := fun w' => (((w'.cell? ⟨g0, 0, none⟩ = some (.slice (some ad) ls.length c) ∧ w'.cell? ⟨g0, 1, none⟩ = some (.slice B m d)) ∧ (w'.cell? ⟨g0 + 1, 0, none⟩ = some (.int .i64 (gi : Int)) ∧ w'.cell? ⟨g0 + 1, 1, none⟩ = some (.int .i64 s) ∧ w'.cell? ⟨g0 + 1, 2, none⟩ = some (.int .i64 p) ∧ w'.cell? ⟨g0 + 1, 3, none⟩ = some (.int .i64 b) ∧ w'.cell? ⟨g0 + 1, 4, none⟩ = some (.string v))) ∧ w'.cell? (ad.add gi) = some (.slice C l.length e))) (by kernel_rfl) (HSS.out _ bb1) (fun hHeld => ?_)
      rw [← hud] at bb1 hHeld ⊢
      clear hud
      refine qT 0 ?_; try simp only [Act.put, qq]
      refine qT 1 ?_; try simp only [Act.put, qq]
      refine qT 2 ?_; try simp only [Act.put, qq]
      refine wpAnyH_ready (rs := [3]) (by kernel_rfl) (by simp) ?_
      refine AllReadyH.cons rfl (fun K hK => ?_) AllReadyH.nil
      go_simp
      refine (CG.out _).mono ?_
      rintro e1 w4 ⟨rfl, hb4⟩
      have bb2 : Below w1.heap.size w1 w4 := bb1.trans (hb4.mono bb1.size)
      clear hb4
      refine hK.out _ _ (HSS.out _ bb2) (fun hHeld => ?_)
      clear hK
      try simp only [Act.put, qq]
      refine qT 4 ?_; try simp only [Act.put, qq]
      refine qT 5 ?_; try simp only [Act.put, qq]
      refine qT 6 ?_; try simp only [Act.put, qq]
      refine qT 7 ?_; try simp only [Act.put, qq]
      refine qT 8 ?_; try simp only [Act.put, qq]
      refine qT 9 ?_; try simp only [Act.put, qq]
      refine qT 10 ?_; try simp only [Act.put, qq]
      refine qT 11 ?_; try simp only [Act.put, qq]
      refine qT 12 ?_; try simp only [Act.put, qq]
      refine qT 13 ?_; try simp only [Act.put, qq]
      refine qT 14 ?_; try simp only [Act.put, qq]
      refine qT 15 ?_; try simp only [Act.put, qq]
      refine qT 16 ?_; try simp only [Act.put, qq]
      refine qT 17 ?_; try simp only [Act.put, qq]
      refine qT 18 ?_; try simp only [Act.put, qq]
      refine qT 19 ?_; try simp only [Act.put, qq]
      refine qT 20 ?_; try simp only [Act.put, qq]
      refine qT 21 ?_; try simp only [Act.put, qq]
      refine qT 22 ?_; try simp only [Act.put, qq]
      refine qT 23 ?_; try simp only [Act.put, qq]
      refine wpAnyH_ready (rs := [24]) (by kernel_rfl) (by simp) ?_
      refine AllReadyH.cons rfl (fun K hK => ?_) AllReadyH.nil
      go_simp
      refine (CV2.out _).mono ?_
      rintro e1 w5 ⟨rfl, hb5⟩
      have bb3 : Below w1.heap.size w1 w5 := bb2.trans (hb5.mono bb2.size)
      clear hb5
      refine hK.out _ _ (HSS.out _ bb3) (fun hHeld => ?_)
      clear hK
      try simp only [Act.put, qq]
      refine qT 25 ?_; try simp only [Act.put, qq]
      refine qT 26 ?_; try simp only [Act.put, qq]
      refine qT 27 ?_; try simp only [Act.put, qq]
      refine qS 28 ?_; try simp only [Act.put, qq]
      refine qS 29 ?_; try simp only [Act.put, qq]
      refine qS 30 ?_; try simp only [Act.put, qq]
      refine qS 31 ?_; try simp only [Act.put, qq]
      refine qT 32 ?_; try simp only [Act.put, qq]
      refine qT 33 ?_; try simp only [Act.put, qq]
      refine wpAnyH_done (by kernel_rfl) ?_ _
      clear hHeld HSS
      go_wp2_with fail
      go_ret
      exact ⟨rfl, HB.out.trans (bb3.mono HB.out.size)⟩
  have CV2 := Lib.hid (CV.out 0 (.inl ⟨c5, rfl⟩))
  by_cases c6 : p = 0
  case pos =>
    obtain rfl : r = false := by rw [HM.out, decide_eq_false_iff_not]; exact fun h => h.2.2.2.2.2 c6
    have t6 : decide (0 < p) = false := by rw [decide_eq_false_iff_not]; omega
    clear hln c5 c6
    have HSS := Lib.hid (show ∀ w', Below w1.heap.size w1 w' → (((w'.cell? ⟨g0, 0, none⟩ = some (.slice (some ad) ls.length c) ∧ w'.cell? ⟨g0, 1, none⟩ = some (.slice B m d)) ∧ (w'.cell? ⟨g0 + 1, 0, none⟩ = some (.int .i64 (gi : Int)) ∧ w'.cell? ⟨g0 + 1, 1, none⟩ = some (.int .i64 s) ∧ w'.cell? ⟨g0 + 1, 2, none⟩ = some (.int .i64 p) ∧ w'.cell? ⟨g0 + 1, 3, none⟩ = some (.int .i64 b) ∧ w'.cell? ⟨g0 + 1, 4, none⟩ = some (.string v))) ∧ w'.cell? (ad.add gi) = some (.slice C l.length e)) from fun w' hq => ⟨⟨⟨(X.out.below hq X.out.lt).cell 0, (X.out.below hq X.out.lt).cell 1⟩, sn_five (Y.out.below hq Y.out.lt)⟩, (hq.cell (by rw [block_of_add]; exact hrb)).trans q1⟩)
    obtain ⟨⟨⟨_, _⟩, ⟨_, _, _, _, _⟩⟩, _⟩ := HSS.out w1 (Below.refl _ _)
    clear X Y
    as_aux_lemma =>
      obtain ⟨ud, hud⟩ : ∃ ud, ud = w1.drew := ⟨_, rfl⟩
      refine wp_region_held_drew (S := fun w' => (((w'.cell? ⟨g0, 0, none⟩ = some (.slice (some ad) ls.length c) ∧ w'.cell? ⟨g0, 1, none⟩ = some (.slice B m d)) ∧ (w'.cell? ⟨g0 + 1, 0, none⟩ = some (.int .i64 (gi : Int)) ∧ w'.cell? ⟨g0 + 1, 1, none⟩ = some (.int .i64 s) ∧ w'.cell? ⟨g0 + 1, 2, none⟩ = some (.int .i64 p) ∧ w'.cell? ⟨g0 + 1, 3, none⟩ = some (.int .i64 b) ∧ w'.cell? ⟨g0 + 1, 4, none⟩ = some (.string v))) ∧ w'.cell? (ad.add gi) = some (.slice C l.length e))) (by kernel_rfl) (HSS.out _ bb1) (fun hHeld => ?_)
      rw [← hud] at bb1 hHeld ⊢
      clear hud
      refine qT 0 ?_; try simp only [Act.put, qq]
      refine qT 1 ?_; try simp only [Act.put, qq]
      refine qT 2 ?_; try simp only [Act.put, qq]
      refine wpAnyH_ready (rs := [3]) (by kernel_rfl) (by simp) ?_
      refine AllReadyH.cons rfl (fun K hK => ?_) AllReadyH.nil
      go_simp
      refine (CG.out _).mono ?_
      rintro e1 w4 ⟨rfl, hb4⟩
      have bb2 : Below w1.heap.size w1 w4 := bb1.trans (hb4.mono bb1.size)
      clear hb4
      refine hK.out _ _ (HSS.out _ bb2) (fun hHeld => ?_)
      clear hK
      try simp only [Act.put, qq]
      refine qT 4 ?_; try simp only [Act.put, qq]
      refine qT 5 ?_; try simp only [Act.put, qq]
      refine qT 6 ?_; try simp only [Act.put, qq]
      refine qT 7 ?_; try simp only [Act.put, qq]
      refine qT 8 ?_; try simp only [Act.put, qq]
      refine qT 9 ?_; try simp only [Act.put, qq]
      refine qT 10 ?_; try simp only [Act.put, qq]
      refine qT 11 ?_; try simp only [Act.put, qq]
      refine qT 12 ?_; try simp only [Act.put, qq]
      refine qT 13 ?_; try simp only [Act.put, qq]
      refine qT 14 ?_; try simp only [Act.put, qq]
      refine qT 15 ?_; try simp only [Act.put, qq]
      refine qT 16 ?_; try simp only [Act.put, qq]
      refine qT 17 ?_; try simp only [Act.put, qq]
      refine qT 18 ?_; try simp only [Act.put, qq]
      refine qT 19 ?_; try simp only [Act.put, qq]
      refine qT 20 ?_; try simp only [Act.put, qq]
      refine qT 21 ?_; try simp only [Act.put, qq]
      refine qT 22 ?_; try simp only [Act.put, qq]
      refine qT 23 ?_; try simp only [Act.put, qq]
      refine wpAnyH_ready (rs := [24]) (by kernel_rfl) (by simp) ?_
      refine AllReadyH.cons rfl (fun K hK => ?_) AllReadyH.nil
      go_simp
      refine (CV2.out _).mono ?_
      rintro e1 w5 ⟨rfl, hb5⟩
      have bb3 : Below w1.heap.size w1 w5 := bb2.trans (hb5.mono bb2.size)
      clear hb5
      refine hK.out _ _ (HSS.out _ bb3) (fun hHeld => ?_)
      clear hK
      try simp only [Act.put, qq]
      refine qT 25 ?_; try simp only [Act.put, qq]
      refine qT 26 ?_; try simp only [Act.put, qq]
      refine qT 27 ?_; try simp only [Act.put, qq]
      refine qT 28 ?_; try simp only [Act.put, qq]
      refine qT 29 ?_; try simp only [Act.put, qq]
      refine qT 30 ?_; try simp only [Act.put, qq]
      refine qT 31 ?_; try simp only [Act.put, qq]
      refine qT 32 ?_; try simp only [Act.put, qq]
      refine qT 33 ?_; try simp only [Act.put, qq]
      refine wpAnyH_done (by kernel_rfl) ?_ _
      clear hHeld HSS
      go_wp2_with fail
      go_ret
      exact ⟨rfl, HB.out.trans (bb3.mono HB.out.size)⟩
  have hp0 : 0 < p := by
    rcases c5.1 with k1 | k1
    · exact absurd k1 c6
    · have := k1.1; omega
  have t6 : decide (0 < p) = true := by simpa using hp0
  obtain rfl : r = true := by
    rw [HM.out, decide_eq_true_iff]
    exact ⟨by show (0 : Int) ≤ _; omega, i1, c3, by show (SM.llen ls _ : Int) < _; rw [hln]; exact c4, c5, c6⟩
  clear hln c5 c6
  have HSS := Lib.hid (show ∀ w', Below w1.heap.size w1 w' → (((w'.cell? ⟨g0, 0, none⟩ = some (.slice (some ad) ls.length c) ∧ w'.cell? ⟨g0, 1, none⟩ = some (.slice B m d)) ∧ (w'.cell? ⟨g0 + 1, 0, none⟩ = some (.int .i64 (gi : Int)) ∧ w'.cell? ⟨g0 + 1, 1, none⟩ = some (.int .i64 s) ∧ w'.cell? ⟨g0 + 1, 2, none⟩ = some (.int .i64 p) ∧ w'.cell? ⟨g0 + 1, 3, none⟩ = some (.int .i64 b) ∧ w'.cell? ⟨g0 + 1, 4, none⟩ = some (.string v))) ∧ w'.cell? (ad.add gi) = some (.slice C l.length e)) from fun w' hq => ⟨⟨⟨(X.out.below hq X.out.lt).cell 0, (X.out.below hq X.out.lt).cell 1⟩, sn_five (Y.out.below hq Y.out.lt)⟩, (hq.cell (by rw [block_of_add]; exact hrb)).trans q1⟩)
  obtain ⟨⟨⟨_, _⟩, ⟨_, _, _, _, _⟩⟩, _⟩ := HSS.out w1 (Below.refl _ _)
  clear X Y
  as_aux_lemma =>
    obtain ⟨ud, hud⟩ : ∃ ud, ud = w1.drew := ⟨_, rfl⟩
    refine wp_region_held_drew (S := fun w' => (((w'.cell? ⟨g0, 0, none⟩ = some (.slice (some ad) ls.length c) ∧ w'.cell? ⟨g0, 1, none⟩ = some (.slice B m d)) ∧ (w'.cell? ⟨g0 + 1, 0, none⟩ = some (.int .i64 (gi : Int)) ∧ w'.cell? ⟨g0 + 1, 1, none⟩ = some (.int .i64 s) ∧ w'.cell? ⟨g0 + 1, 2, none⟩ = some (.int .i64 p) ∧ w'.cell? ⟨g0 + 1, 3, none⟩ = some (.int .i64 b) ∧ w'.cell? ⟨g0 + 1, 4, none⟩ = some (.string v))) ∧ w'.cell? (ad.add gi) = some (.slice C l.length e))) (by kernel_rfl) (HSS.out _ bb1) (fun hHeld => ?_)
    rw [← hud] at bb1 hHeld ⊢
    clear hud
    refine qT 0 ?_; try simp only [Act.put, qq]
    refine qT 1 ?_; try simp only [Act.put, qq]
    refine qT 2 ?_; try simp only [Act.put, qq]
    refine wpAnyH_ready (rs := [3]) (by kernel_rfl) (by simp) ?_
    refine AllReadyH.cons rfl (fun K hK => ?_) AllReadyH.nil
    go_simp
    refine (CG.out _).mono ?_
    rintro e1 w4 ⟨rfl, hb4⟩
    have bb2 : Below w1.heap.size w1 w4 := bb1.trans (hb4.mono bb1.size)
    clear hb4
    refine hK.out _ _ (HSS.out _ bb2) (fun hHeld => ?_)
    clear hK
    try simp only [Act.put, qq]
    refine qT 4 ?_; try simp only [Act.put, qq]
    refine qT 5 ?_; try simp only [Act.put, qq]
    refine qT 6 ?_; try simp only [Act.put, qq]
    refine qT 7 ?_; try simp only [Act.put, qq]
    refine qT 8 ?_; try simp only [Act.put, qq]
    refine qT 9 ?_; try simp only [Act.put, qq]
    refine qT 10 ?_; try simp only [Act.put, qq]
    refine qT 11 ?_; try simp only [Act.put, qq]
    refine qT 12 ?_; try simp only [Act.put, qq]
    refine qT 13 ?_; try simp only [Act.put, qq]
    refine qT 14 ?_; try simp only [Act.put, qq]
    refine qT 15 ?_; try simp only [Act.put, qq]
    refine qT 16 ?_; try simp only [Act.put, qq]
    refine qT 17 ?_; try simp only [Act.put, qq]
    refine qT 18 ?_; try simp only [Act.put, qq]
    refine qT 19 ?_; try simp only [Act.put, qq]
    refine qT 20 ?_; try simp only [Act.put, qq]
    refine qT 21 ?_; try simp only [Act.put, qq]
    refine qT 22 ?_; try simp only [Act.put, qq]
    refine qT 23 ?_; try simp only [Act.put, qq]
    refine wpAnyH_ready (rs := [24]) (by kernel_rfl) (by simp) ?_
    refine AllReadyH.cons rfl (fun K hK => ?_) AllReadyH.nil
    go_simp
    refine (CV2.out _).mono ?_
    rintro e1 w5 ⟨rfl, hb5⟩
    have bb3 : Below w1.heap.size w1 w5 := bb2.trans (hb5.mono bb2.size)
    clear hb5
    refine hK.out _ _ (HSS.out _ bb3) (fun hHeld => ?_)
    clear hK
    try simp only [Act.put, qq]
    refine qT 25 ?_; try simp only [Act.put, qq]
    refine qT 26 ?_; try simp only [Act.put, qq]
    refine qT 27 ?_; try simp only [Act.put, qq]
    refine qT 28 ?_; try simp only [Act.put, qq]
    refine qT 29 ?_; try simp only [Act.put, qq]
    refine qT 30 ?_; try simp only [Act.put, qq]
    refine qT 31 ?_; try simp only [Act.put, qq]
    refine qT 32 ?_; try simp only [Act.put, qq]
    refine qT 33 ?_; try simp only [Act.put, qq]
    refine wpAnyH_done (by kernel_rfl) ?_ _
    clear hHeld HSS
    go_wp2_with fail
    go_ret
    exact ⟨rfl, HB.out.trans (bb3.mono HB.out.size)⟩
end Go.Proofs.Ytohiemdodffhoaa.SP

namespace Go.Proofs.Ytohiemdodffhoaa.SP
open Go.RowKit
open SM (Sn Sb Vo)
set_option linter.unusedVariables false
set_option linter.unusedSimpArgs false
set_option maxRecDepth 100000

/-- the error of a record at its place -/
def wrF (ls : List (List ByteArray)) (k g s : Int) : Int :=
  if ¬ (0 ≤ g ∧ g < (ls.length : Int)) then 6 else if s ≤ SM.llen ls g ∨ (k = 3 ∧ (SM.llen ls g : Int) + 1 < s) then 8 else 0
set_option maxHeartbeats 4000000 in
theorem wrong_any (A B : Option Addr) (c m d : Nat) (ls : List (List ByteArray)) (k g s b : Int) (t : ByteArray) (w : World) (hL : LogsIs w A ls.length c ls) (hls : ∀ l ∈ ls, l.length ≤ 2000) :
    Calls Try.prog 70 #[.agg #[.slice A ls.length c, .slice B m d], .agg #[.int .u8 k, .int .i64 g, .int .i64 s, .int .i64 b, .string t]] w fun e w' => e = .returned (.int .i64 (wrF ls k g s)) ∧ Below w.heap.size w w' := by
  obtain ⟨m0, m1, m2⟩ := rows_rd2 hL
  obtain ⟨z, hz⟩ : ∃ z, z = wrF ls k g s := ⟨_, rfl⟩
  rw [← hz]
  unfold wrF at hz
  have hb0 : Below w.heap.size w ((w.alloc (.cells #[.slice A ls.length c, .slice B m d] 25)).alloc (.cells #[.int .u8 k, .int .i64 g, .int .i64 s, .int .i64 b, .string t] 29)) := ((Below.refl _ _).alloc (Nat.le_refl _) _).alloc (by simp) _
  have HB := Lib.hid hb0
  have X := Lib.hid ((Box.new w 25 #[.slice A ls.length c, .slice B m d]).alloc (.cells #[.int .u8 k, .int .i64 g, .int .i64 s, .int .i64 b, .string t] 29))
  have Y := Lib.hid (Box.new_at (w := w.alloc (.cells #[.slice A ls.length c, .slice B m d] 25)) (t := 29) (cs := #[.int .u8 k, .int .i64 g, .int .i64 s, .int .i64 b, .string t]) (w.heap.size + 1) (by simp))
  have HL := Lib.hid (hL.below hb0)
  have CG := Lib.hid (fun (w : World) => isgroup_any A B ls.length c m d g w (Nat.le_trans m1 m2))
  have HLS := Lib.hid hls
  have HZ := Lib.hid hz
  clear hL hb0 hz hls m0 m1 m2
  go_enter Try.func70, Try.ntmps70
  go_upto_region 1 with (fail)
  generalize (w.alloc (.cells #[.slice A ls.length c, .slice B m d] 25)).alloc (.cells #[.int .u8 k, .int .i64 g, .int .i64 s, .int .i64 b, .string t] 29) = w1 at HB X Y HL ⊢
  generalize w.heap.size = g0 at X Y ⊢
  obtain ⟨x0, x1, _, _⟩ := X.out.two
  obtain ⟨y0, y1, y2, y3, y4⟩ := sn_five Y.out
  go_wp2_with fail
  refine (CG.out _).mono ?_
  rintro e w2 ⟨rfl, hb⟩
  replace HB := Lib.hid (bmore HB.out hb (Nat.le_refl _))
  replace X := Lib.hid (X.out.below hb X.out.lt)
  replace Y := Lib.hid (Y.out.below hb Y.out.lt)
  replace HL := Lib.hid (HL.out.below hb)
  clear hb x0 x1 y0 y1 y2 y3 y4 CG
  by_cases hg : 0 ≤ g ∧ g < (ls.length : Int)
  case neg =>
    obtain rfl : z = 6 := by rw [HZ.out, if_pos hg]
    rw [decide_eq_false hg]
    clear hg
    go_wp2_with fail
    go_ret
    exact ⟨rfl, HB.out⟩
  obtain ⟨gi, rfl⟩ : ∃ gi : Nat, g = gi := ⟨g.toNat, by omega⟩
  have HZ2 := Lib.hid (show z = if s ≤ SM.llen ls gi ∨ (k = 3 ∧ (SM.llen ls gi : Int) + 1 < s) then 8 else 0 by rw [HZ.out, if_neg (fun h => h hg)])
  rw [decide_eq_true hg]
  have hgl : gi < ls.length := by omega
  clear hg HZ
  obtain ⟨l, hl⟩ : ∃ l, ls[gi]? = some l := ⟨_, List.getElem?_eq_getElem hgl⟩
  obtain ⟨ad, C, e, rfl, _, q1, q3, q4, q5⟩ := logs_get HL.out hl
  have hln := llen_of hl
  have hl2 := HLS.out l (List.mem_of_getElem? hl)
  rw [hln] at HZ2
  have i0 : (0 : Int) ≤ (gi : Int) := by omega
  have i1 : (gi : Int) < (ls.length : Int) := by omega
  obtain ⟨x0, x1, _, _⟩ := X.out.two
  obtain ⟨y0, y1, y2, y3, y4⟩ := sn_five Y.out
  clear hl q3 q4 q5 hln
  by_cases h1 : s < (l.length : Int) + 1
  · obtain rfl : z = 8 := by rw [HZ2.out, if_pos (.inl (by omega))]
    have t1 : decide (s < (l.length : Int) + 1) = true := by simpa using h1
    go_wp2_with fail
    go_ret
    exact ⟨rfl, HB.out⟩
  have t1 : decide (s < (l.length : Int) + 1) = false := by simpa using h1
  by_cases h2 : k = 3
  · have t2 : (k == 3) = true := by simpa using h2
    by_cases h3 : (l.length : Int) + 1 < s
    · obtain rfl : z = 8 := by rw [HZ2.out, if_pos (.inr ⟨h2, h3⟩)]
      have t3 : decide ((l.length : Int) + 1 < s) = true := by simpa using h3
      clear h2
      go_wp2_with fail
      go_ret
      exact ⟨rfl, HB.out⟩
    · obtain rfl : z = 0 := by rw [HZ2.out, if_neg (by omega)]
      have t3 : decide ((l.length : Int) + 1 < s) = false := by simpa using h3
      clear h2
      go_wp2_with fail
      go_ret
      exact ⟨rfl, HB.out⟩
  · have t2 : (k == 3) = false := by simpa using h2
    obtain rfl : z = 0 := by rw [HZ2.out, if_neg (by omega)]
    clear h2
    go_wp2_with fail
    go_ret
    exact ⟨rfl, HB.out⟩
end Go.Proofs.Ytohiemdodffhoaa.SP

namespace Go.Proofs.Ytohiemdodffhoaa.SP
open Go.RowKit
open SM (Sn Sb Vo)
set_option linter.unusedVariables false
set_option linter.unusedSimpArgs false
set_option maxRecDepth 100000

theorem own_zero (w : World) (base : Nat) : StOwn w base (.agg #[.slice none 0 0, .slice none 0 0]) SM.zero :=
  ⟨_, _, [], rfl, World.ownsRow_nil _ _ _ _, RwOwn.nil _ _, Apart.nil, World.ownsRow_nil _ _ _ _⟩
theorem StOwn.kept {w w' : World} {base : Nat} {v : Value} {x : Sb} {S : TypeId → Prop} (h : StOwn w base v x) (k : Kept S w w') (h1 : ¬ S 32) (h2 : ¬ S 9) (h3 : ¬ S 75) : StOwn w' base v x := by
  obtain ⟨vL, vV, rows, e, o1, o2, o3, o4⟩ := h
  exact ⟨vL, vV, rows, e, k.own o1 h1, o2.kept k h2, o3, k.own o4 h3⟩
theorem StOwn.base {w : World} {base b2 : Nat} {v : Value} {x : Sb} (h : StOwn w base v x) (hb : b2 ≤ base) : StOwn w b2 v x := by
  obtain ⟨vL, vV, rows, e, o1, o2, o3, o4⟩ := h
  exact ⟨vL, vV, rows, e, own_base o1 hb, ⟨o2.1, fun i l hi => by obtain ⟨u, h1, h2⟩ := o2.2 i l hi; exact ⟨u, h1, own_base h2 hb⟩⟩, o3, own_base o4 hb⟩
set_option maxHeartbeats 4000000 in
theorem new_any (n : Int) (W : World) :
    Calls Try.prog 15 #[.int .i64 n] W fun e w' => ∃ v, e = .returned (.tuple #[v, .int .i64 (SM.newF n).2]) ∧ StOwn w' W.heap.size v (SM.newF n).1 ∧ Below W.heap.size W w' := by
  obtain ⟨i1, hj, hy0, hy1, hy2⟩ := info_parts info_row
  have HB := Lib.hid (show Below W.heap.size W (W.alloc (.cells #[.slice none 0 0, .slice none 0 0] 25)) from (Below.refl _ _).alloc (Nat.le_refl _) _)
  have Y := Lib.hid (Box.new W 25 #[.slice none 0 0, .slice none 0 0])
  obtain ⟨o, ho⟩ : ∃ o, o = SM.newF n := ⟨_, rfl⟩
  rw [← ho]
  unfold SM.newF at ho
  have HO := Lib.hid ho
  clear ho
  obtain ⟨y0, y1, z0, z1⟩ := Y.out.two
  by_cases n1 : n < 1
  · obtain rfl : o = (SM.zero, 2) := by rw [HO.out, if_pos (.inl n1)]
    go_enter Try.func15, Try.ntmps15
    go_wp2_with fail
    exact bodyPost_ret (v := .tuple #[.agg #[.slice none 0 0, .slice none 0 0], .int .i64 2]) (by simp [results, Try.results15, go_sem, y0, y1]; try rfl) rfl ⟨_, rfl, own_zero _ _, HB.out⟩
  by_cases n2 : 4 < n
  · obtain rfl : o = (SM.zero, 2) := by rw [HO.out, if_pos (.inr n2)]
    go_enter Try.func15, Try.ntmps15
    go_wp2_with fail
    exact bodyPost_ret (v := .tuple #[.agg #[.slice none 0 0, .slice none 0 0], .int .i64 2]) (by simp [results, Try.results15, go_sem, y0, y1]; try rfl) rfl ⟨_, rfl, own_zero _ _, HB.out⟩
  obtain ⟨m, rfl⟩ : ∃ m : Nat, n = m := ⟨n.toNat, by omega⟩
  obtain rfl : o = (⟨List.replicate m [], []⟩, 0) := by rw [HO.out, if_neg (by omega)]; simp
  go_enter Try.func15, Try.ntmps15
  go_wp2_with (at_make; refine wpList_make_rd _ rfl _ _ 22 rfl 32 i1 (.slice none 0 0) Try.underlying22 hj hy0 hy1 rfl .i64 .i64 m rfl rfl (by rw [hy2]; omega) (by unfold maxLen; omega) ?_; intro A2 w2 hown hb; have Y2 := Y.out.below hb (by simp); obtain ⟨_, _, _, _⟩ := Y2.two)
  have b1 := Y2.stored 0 (.slice A2 m m)
  have b2 := b1.stored 1 (.slice none 0 0)
  have k2 : Kept isSt w2 ((w2.setCell ⟨W.heap.size, 0, none⟩ (.slice A2 m m)).setCell ⟨W.heap.size, 1, none⟩ (.slice none 0 0)) := (Kept.set (S := isSt) Y2 rfl _).trans (Kept.set (S := isSt) b1 rfl _)
  have hs := (st_rows (own_base (k2.own hown (by unfold isSt; decide)) (base' := W.heap.size) (by simp)))
  have s0 := b2.cell 0
  have s1 := b2.cell 1
  simp at s0 s1
  exact bodyPost_ret (v := .tuple #[.agg #[.slice A2 m m, .slice none 0 0], .int .i64 0]) (by simp [results, Try.results15, go_sem, s0, s1]; try rfl) rfl ⟨_, rfl, hs, ((bmore HB.out hb (by simp)).setCell (p := ⟨W.heap.size, 0, none⟩) (Nat.le_refl _) _).setCell (p := ⟨W.heap.size, 1, none⟩) (Nat.le_refl _) _⟩
end Go.Proofs.Ytohiemdodffhoaa.SP

namespace Go.Proofs.Ytohiemdodffhoaa.SP
open Go.RowKit Go.Shelf
open SM (Sn Sb Vo)
set_option linter.unusedVariables false
set_option linter.unusedSimpArgs false
set_option maxRecDepth 100000

/-- what stays: all below base, but for one block -/
structure DoKeep (base g0 : Nat) (a b : World) : Prop where
  os : b.os = a.os
  tape : b.tape = a.tape
  output : b.output = a.output
  size : a.heap.size ≤ b.heap.size
  block : ∀ k, k < base → k ≠ g0 → b.heap[k]? = a.heap[k]?
section
variable {base g0 : Nat} {a b c : World}
theorem DoKeep.below (h : DoKeep base g0 a b) (k : Below b.heap.size b c) (hb : base ≤ a.heap.size) : DoKeep base g0 a c :=
  ⟨k.os.trans h.os, k.tape.trans h.tape, k.output.trans h.output, Nat.le_trans h.size k.size, fun i hi hne => (k.block i (by have := h.size; omega)).trans (h.block i hi hne)⟩
theorem DoKeep.ofBelow (h : Below base a b) (g0 : Nat) : DoKeep base g0 a b := ⟨h.os, h.tape, h.output, h.size, fun i hi _ => h.block i hi⟩
theorem DoKeep.then (h : DoKeep base g0 a b) (k : Below base b c) : DoKeep base g0 a c :=
  ⟨k.os.trans h.os, k.tape.trans h.tape, k.output.trans h.output, Nat.le_trans h.size k.size, fun i hi hne => (k.block i hi).trans (h.block i hi hne)⟩
theorem DoKeep.set (h : DoKeep base g0 a b) (i : Nat) (v : Value) : DoKeep base g0 a (b.setCell ⟨g0, i, none⟩ v) :=
  ⟨h.os, h.tape, h.output, by have := h.size; simpa [World.setCell] using this, fun k hk hne => (Below.heap_setCell _ _ _ _ (by intro e; exact hne e)).trans (h.block k hk hne)⟩
theorem DoKeep.box (h : DoKeep base g0 a b) {g : Nat} {t : TypeId} {cs : Array Value} (hx : Box a g t cs) (hg : g < base) (hne : g ≠ g0) : Box b g t cs := (h.block g hg hne).trans hx
theorem DoKeep.toBelow (h : DoKeep base g0 a b) {B : Nat} (h1 : B ≤ base) (h2 : B ≤ g0) : Below B a b := ⟨h.os, h.tape, h.output, h.size, fun i hi => h.block i (by omega) (by omega)⟩
end
def DoPost (base g0 : Nat) (x : Sb) (r : RM.Rc) (W : World) (e : Ending) (w' : World) : Prop :=
  e = .returned (.int .i64 (SM.appF x r).2) ∧ DoKeep base g0 W w' ∧
    ((SM.appF x r).2 = 0 → ∃ vL vV, Box w' g0 25 #[vL, vV] ∧ StOwn w' base (.agg #[vL, vV]) (SM.appF x r).1)
/-- do's variables: what lasts, the record -/
structure DoR (W : World) (base g0 h : Nat) (vL vV : Value) (x : Sb) (R : Array Value) (wr : World) : Prop where
  kp : DoKeep base g0 W wr
  hb : base ≤ W.heap.size
  hh : W.heap.size ≤ h
  bs : Box wr g0 25 #[vL, vV]
  br : Box wr h 29 R
  ow : StOwn wr base (.agg #[vL, vV]) x
theorem DoR.below {W wr wr' : World} {base g0 h : Nat} {vL vV : Value} {x : Sb} {R : Array Value} (d : DoR W base g0 h vL vV x R wr) (hb : Below wr.heap.size wr wr') : DoR W base g0 h vL vV x R wr' :=
  ⟨d.kp.below hb d.hb, d.hb, d.hh, d.bs.below hb d.bs.lt, d.br.below hb d.br.lt, d.ow.below hb⟩
theorem do_err {base g0 h : Nat} {x : Sb} {r : RM.Rc} {W wr : World} {vL vV : Value} {R : Array Value} {e : Int} (d : DoR W base g0 h vL vV x R wr) (he : SM.appF x r = (SM.zero, e)) (h0 : e ≠ 0) : DoPost base g0 x r W (.returned (.int .i64 e)) wr :=
  ⟨by rw [he], d.kp, fun k => by rw [he] at k; exact absurd k h0⟩
def isVt (e : TypeId) : Prop := e = 48
theorem DoR.setv {W wr : World} {base g0 h gv i : Nat} {vL vV : Value} {x : Sb} {R cs : Array Value} (d : DoR W base g0 h vL vV x R wr) (hv : Box wr gv 48 cs) (hg : W.heap.size ≤ gv) (v : Value) : DoR W base g0 h vL vV x R (wr.setCell ⟨gv, i, none⟩ v) := by
  have k : Kept isVt wr (wr.setCell ⟨gv, i, none⟩ v) := Kept.set (S := isVt) hv rfl v
  have hb := d.hb
  exact ⟨d.kp.then ((Below.refl base wr).setCell (p := ⟨gv, i, none⟩) (by show _ ≤ gv; omega) v), d.hb, d.hh, k.box _ _ _ (by unfold isVt; decide) d.bs, k.box _ _ _ (by unfold isVt; decide) d.br, d.ow.kept k (by unfold isVt; decide) (by unfold isVt; decide) (by unfold isVt; decide)⟩
theorem vo_fit {o : Vo} (h : VM.may o.p o.b o.v) : (0 ≤ o.p ∧ o.p ≤ 8388613) ∧ (0 ≤ o.b ∧ o.b ≤ 8388613) ∧ o.v.size ≤ 1024 := by
  obtain ⟨k1, k2⟩ := h
  have kp : 0 ≤ o.p ∧ o.p ≤ 8388613 := by
    rcases k1 with k1 | k1
    · omega
    · exact ⟨by have := k1.1; omega, k1.2.1⟩
  rcases k2 with ⟨k2, k3⟩ | ⟨_, k2, _, k3⟩
  · exact ⟨kp, by omega, by rw [k3]; decide⟩
  · exact ⟨kp, ⟨by have := k2.1; omega, k2.2.1⟩, k3⟩
/-- rows stay apart behind one's growth -/
theorem apart_set {rows : List Value} {gi N : Nat} {u u9 : Value} (ha : Apart rows) (hu : rows[gi]? = some u) (hlt : ∀ (i b : Nat) y, rows[i]? = some y → y.ownBlock = some b → b < N) (hob : u9.ownBlock = u.ownBlock ∨ u9.ownBlock = some N) : Apart (rows.set gi u9) := by
  have hgl := (List.getElem?_eq_some_iff.1 hu).1
  intro i j y z b hij hi hj hy hz
  rw [List.getElem?_set] at hi hj
  by_cases h1 : gi = i
  · subst h1
    rw [if_pos rfl, if_pos hgl] at hi
    rw [if_neg hij] at hj
    injection hi with hi
    subst hi
    rcases hob with h | h
    · exact ha gi j u z b hij hu hj (by rw [← h]; exact hy) hz
    · rw [h] at hy
      injection hy with hy
      have := hlt j b z hj hz
      omega
  · rw [if_neg h1] at hi
    by_cases h2 : gi = j
    · subst h2
      rw [if_pos rfl, if_pos hgl] at hj
      injection hj with hj
      subst hj
      rcases hob with h | h
      · exact ha i gi y u b hij hi hu hy (by rw [← h]; exact hz)
      · rw [h] at hz
        injection hz with hz
        have := hlt i b y hi hy
        omega
    · rw [if_neg h2] at hj
      exact ha i j y z b hij hi hj hy hz
def isSeen (e : TypeId) : Prop := e = 75
/-- a vote put in, and the variable behind it -/
theorem DoR.put {W wr w2 : World} {base g0 h : Nat} {A F : Option Addr} {c f : Nat} {vL : Value} {x : Sb} {R : Array Value} {vs : List Sn} (d : DoR W base g0 h vL (.slice A x.votes.length c) x R wr) (hg0 : base ≤ h)
    (ho : w2.ownsRow base 75 5 (.slice F vs.length f) vs.length (flat sncell vs)) (hg : wr.grownBy w2 (Value.ownBlock (.slice A x.votes.length c))) :
    Box w2 g0 25 #[vL, .slice A x.votes.length c] ∧ DoKeep base g0 W (w2.setCell ⟨g0, 1, none⟩ (.slice F vs.length f)) ∧ Box (w2.setCell ⟨g0, 1, none⟩ (.slice F vs.length f)) g0 25 #[vL, .slice F vs.length f] ∧ StOwn (w2.setCell ⟨g0, 1, none⟩ (.slice F vs.length f)) base (.agg #[vL, .slice F vs.length f]) ⟨x.logs, vs⟩ ∧
      ∀ (g : Nat) (t : TypeId) (cs : Array Value), t ≠ 75 → t ≠ 25 → Box wr g t cs → Box w2 g t cs ∧ Box (w2.setCell ⟨g0, 1, none⟩ (.slice F vs.length f)) g t cs := by
  obtain ⟨uL, uV, rows, e, o1, o2, o3, o4⟩ := d.ow
  injection e with e
  injection e with e
  injection e with e1 e
  injection e with e2
  subst e1
  subst e2
  have k2 : Kept isSeen wr w2 := Kept.grown o4 rfl hg
  have b2 := k2.box _ _ _ (by unfold isSeen; decide) d.bs
  have k3 : Kept isSt w2 (w2.setCell ⟨g0, 1, none⟩ (.slice F vs.length f)) := Kept.set (S := isSt) b2 rfl _
  have hk : DoKeep base g0 W w2 := d.kp.then (below_row (Below.refl _ _) o4 (Nat.le_trans d.hb d.kp.size) hg)
  exact ⟨b2, hk.set 1 _, by simpa using b2.stored 1 _, ⟨_, _, rows, rfl, k3.own (k2.own o1 (by unfold isSeen; decide)) (by unfold isSt; decide), (o2.kept k2 (by unfold isSeen; decide)).kept k3 (by unfold isSt; decide), o3, k3.own ho (by unfold isSt; decide)⟩, fun g t cs h1 h2 hx => ⟨k2.box _ _ _ h1 hx, k3.box _ _ _ h2 (k2.box _ _ _ h1 hx)⟩⟩
theorem do_own {W wr : World} {base g0 h d : Nat} {vL : Value} {B : Option Addr} {x : Sb} {R : Array Value} (D : DoR W base g0 h vL (.slice B x.votes.length d) x R wr) : wr.ownsRow base 75 5 (.slice B x.votes.length d) x.votes.length (flat sncell x.votes) := by
  obtain ⟨uL, uV, rows, e, o1, o2, o3, o4⟩ := D.ow
  injection e with e
  injection e with e
  injection e with e1 e
  injection e with e2
  subst e1
  subst e2
  exact o4
theorem do_logs {W wr : World} {base g0 h n c : Nat} {vV : Value} {A : Option Addr} {x : Sb} {R : Array Value} (D : DoR W base g0 h (.slice A n c) vV x R wr) : ∃ xs, wr.ownsRow base 32 1 (.slice A n c) n xs := by
  obtain ⟨uL, uV, rows, e, o1, o2, o3, o4⟩ := D.ow
  injection e with e
  injection e with e
  injection e with e1 e
  subst e1
  have hn : n = x.logs.length := by
    obtain ⟨_, _, e3, _⟩ := own_form o1
    injection e3
  subst hn
  exact ⟨rows, o1⟩
theorem do_votes {W wr : World} {base g0 h d : Nat} {vL : Value} {B : Option Addr} {x : Sb} {R : Array Value} (D : DoR W base g0 h vL (.slice B x.votes.length d) x R wr) : VotesIs wr B x.votes.length d x.votes := by
  have o4 := do_own D
  obtain ⟨_, _, e, h1, h2⟩ := own_form o4
  injection e with _ _ e3
  subst e3
  exact votes_own o4 rfl h1 h2
/-- the row of a log -/
theorem DoR.row {W wr : World} {base g0 h qq n c gi : Nat} {vV : Value} {x : Sb} {R : Array Value} {l : List ByteArray} (D : DoR W base g0 h (.slice (some ⟨qq, 0, none⟩) n c) vV x R wr) (hl : x.logs[gi]? = some l) :
    ∃ C e, wr.cell? ⟨qq, gi, none⟩ = some (.slice C l.length e) ∧ wr.ownsRow base 9 1 (.slice C l.length e) l.length (tc l) := by
  obtain ⟨uL, uV, rows, e, o1, o2, o3, o4⟩ := D.ow
  injection e with e
  injection e with e
  injection e with e1 e
  subst e1
  have hgl := (List.getElem?_eq_some_iff.1 hl).1
  obtain ⟨u, hu, ou⟩ := o2.2 gi l hl
  obtain ⟨C, e2, rfl, _, _⟩ := own_form ou
  have hn : n = x.logs.length := by
    obtain ⟨_, _, e3, _⟩ := own_form o1
    injection e3
  subst hn
  obtain ⟨q2, hq, _, hcell⟩ := own_some o1 (by omega)
  injection hq with hq
  injection hq with hq
  subst hq
  exact ⟨C, e2, hcell gi _ hu, ou⟩
/-- a log that has grown, its row stored -/
theorem DoR.grew {W u1 w2 : World} {base g0 h qq n c gi : Nat} {vV u v9 : Value} {x : Sb} {R : Array Value} {l : List ByteArray} {t : ByteArray} (D : DoR W base g0 h (.slice (some ⟨qq, 0, none⟩) n c) vV x R u1) (hl : x.logs[gi]? = some l)
    (hc : u1.cell? ⟨qq, gi, none⟩ = some u) (o9 : w2.ownsRow base 9 1 v9 (l.length + 1) (tc l ++ [.string t])) (g9 : u1.grownBy w2 u.ownBlock) (hob : v9.ownBlock = u.ownBlock ∨ v9.ownBlock = some u1.heap.size) :
    (∃ cv, w2.cell? ⟨qq, gi, none⟩ = some cv) ∧ w2.frozen? ⟨qq, gi, none⟩ = false ∧ DoR W base g0 h (.slice (some ⟨qq, 0, none⟩) n c) vV ⟨x.logs.set gi (l ++ [t]), x.votes⟩ R (w2.setCell ⟨qq, gi, none⟩ v9) ∧
      ∀ (g : Nat) (e : TypeId) (cs : Array Value), e ≠ 9 → e ≠ 32 → Box u1 g e cs → Box w2 g e cs ∧ Box (w2.setCell ⟨qq, gi, none⟩ v9) g e cs := by
  obtain ⟨uL, uV, rows, e, o1, o2, o3, o4⟩ := D.ow
  injection e with e
  injection e with e
  injection e with e1 e
  injection e with e2
  subst e1
  subst e2
  have hgl := (List.getElem?_eq_some_iff.1 hl).1
  obtain ⟨u', hu, ou⟩ := o2.2 gi l hl
  have hn : n = x.logs.length := by
    obtain ⟨_, _, e3, _⟩ := own_form o1
    injection e3
  subst hn
  obtain ⟨q2, hq, _, hcell⟩ := own_some o1 (by omega)
  injection hq with hq
  injection hq with hq
  subst hq
  have hce := hcell gi _ hu
  rw [hc] at hce
  injection hce with hce
  subst hce
  have k9 : Kept isStr u1 w2 := Kept.grown ou rfl g9
  have P1 := k9.own o1 (by unfold isStr; decide)
  obtain ⟨hbq, cur, hx⟩ := own_block P1 (g := qq) rfl
  have kq : Kept isRow w2 (w2.setCell ⟨qq, gi, none⟩ v9) := Kept.set (S := isRow) hx rfl _
  have RM2 := rw_more o2 o3 hu hl o9 g9
  have hkk : DoKeep base g0 W w2 := D.kp.then (below_row (Below.refl _ _) ou (Nat.le_trans D.hb D.kp.size) g9)
  have hc2 : ∃ cv, w2.cell? ⟨qq, gi, none⟩ = some cv := by
    obtain ⟨q3, hq3, _, hcell3⟩ := own_some P1 (by omega)
    injection hq3 with hq3
    injection hq3 with hq3
    subst hq3
    exact ⟨_, hcell3 gi _ hu⟩
  refine ⟨hc2, hx.frozen gi, ⟨hkk.then ((Below.refl base w2).setCell (p := ⟨qq, gi, none⟩) hbq v9), D.hb, D.hh, kq.box _ _ _ (by unfold isRow; decide) (k9.box _ _ _ (by unfold isStr; decide) D.bs), kq.box _ _ _ (by unfold isRow; decide) (k9.box _ _ _ (by unfold isStr; decide) D.br),
    ⟨_, _, rows.set gi v9, rfl, ?_, RM2.kept kq (by unfold isRow; decide), apart_set o3 hu (fun i b y hi hy => o2.lt hi hy) hob, kq.own (k9.own o4 (by unfold isStr; decide)) (by unfold isRow; decide)⟩⟩, fun g e cs h1 h2 hb => ⟨k9.box _ _ _ h1 hb, kq.box _ _ _ h2 (k9.box _ _ _ h1 hb)⟩⟩
  have := (P1.stored gi v9).1
  simpa using this
/-- the vote at a place, in a variable -/
def VMid (w : World) (o : Vo) (u6 u7 : Value) (wx : World) : Prop := ∃ gv, u6 = .pointer (some ⟨gv, 0, none⟩) ∧ u7 = .int .i64 0 ∧ w.heap.size ≤ gv ∧ Box wx gv 48 #[.int .i64 o.p, .int .i64 o.b, .string o.v] ∧ Below w.heap.size w wx
theorem vf_1 {wr w4 : World} {o : Vo} (hb : Below wr.drew.heap.size wr.drew w4) :
    Below wr.heap.size wr w4 ∧ VMid wr o (.pointer (some ⟨w4.heap.size, 0, none⟩)) (.int .i64 0) (w4.alloc (.cells #[.int .i64 o.p, .int .i64 o.b, .string o.v] 48)) := by
  have h : Below wr.heap.size wr w4 := bmore ((Below.refl _ _).drew) hb (Nat.le_refl _)
  exact ⟨h, _, rfl, rfl, h.size, Box.new _ _ _, h.alloc h.size _⟩
theorem vf_2 {wr w4 : World} {o : Vo} (hb : Below ((wr.alloc (.cells #[.int .i64 0, .int .i64 0, .string ⟨#[]⟩] 48)).drew).heap.size ((wr.alloc (.cells #[.int .i64 0, .int .i64 0, .string ⟨#[]⟩] 48)).drew) w4) :
    Below wr.heap.size wr w4 ∧ Box w4 wr.heap.size 48 #[.int .i64 0, .int .i64 0, .string ⟨#[]⟩] ∧ VMid wr o (.pointer (some ⟨wr.heap.size, 0, none⟩)) (.int .i64 0) (((w4.setCell ⟨wr.heap.size, 0, none⟩ (.int .i64 o.p)).setCell ⟨wr.heap.size, 1, none⟩ (.int .i64 o.b)).setCell ⟨wr.heap.size, 2, none⟩ (.string o.v)) := by
  have h : Below wr.heap.size wr w4 := bmore (((Below.refl _ _).alloc (Nat.le_refl _) _).drew) hb (Nat.le_refl _)
  have hx : Box w4 wr.heap.size 48 #[.int .i64 0, .int .i64 0, .string ⟨#[]⟩] := ((Box.new wr 48 #[.int .i64 0, .int .i64 0, .string ⟨#[]⟩]).drew).below hb (by show wr.heap.size < (wr.alloc _).heap.size; simp)
  refine ⟨h, hx, _, rfl, rfl, Nat.le_refl _, ?_, below_put3 h (Nat.le_refl _) _ _ _⟩
  have := hx.put3 (.int .i64 o.p) (.int .i64 o.b) (.string o.v)
  exact this
end Go.Proofs.Ytohiemdodffhoaa.SP

namespace Go.Proofs.Ytohiemdodffhoaa.SP
open Go.RowKit Go.Shelf
open SM (Sn Sb Vo)
set_option linter.unusedVariables false
set_option linter.unusedSimpArgs false
set_option maxRecDepth 100000

theorem app_wr {x : Sb} {r : RM.Rc} (hm : SM.may x) (hr : RM.may r) (h : wrF x.logs r.k r.g r.s ≠ 0) : SM.appF x r = (SM.zero, wrF x.logs r.k r.g r.s) := by
  have hg := hr.1.1
  unfold wrF at h ⊢
  by_cases h1 : 0 ≤ r.g ∧ r.g < (x.logs.length : Int)
  · rw [if_neg (fun k => k h1)] at h ⊢
    by_cases h2 : r.s ≤ SM.llen x.logs r.g ∨ (r.k = 3 ∧ (SM.llen x.logs r.g : Int) + 1 < r.s)
    · rw [if_pos h2]
      exact app_8 hm hr (by omega) (by omega)
    · rw [if_neg h2] at h; exact absurd rfl h
  · rw [if_pos h1]
    exact app_6 hm hr (by omega)
theorem wr_ok {ls : List (List ByteArray)} {k g s : Int} (h : wrF ls k g s = 0) : (0 ≤ g ∧ g < (ls.length : Int)) ∧ ¬ s ≤ SM.llen ls g ∧ (k = 3 → s = SM.llen ls g + 1) := by
  unfold wrF at h
  by_cases h1 : 0 ≤ g ∧ g < (ls.length : Int)
  · rw [if_neg (fun k => k h1)] at h
    by_cases h2 : s ≤ SM.llen ls g ∨ (k = 3 ∧ (SM.llen ls g : Int) + 1 < s)
    · rw [if_pos h2] at h; exact absurd h (by decide)
    · exact ⟨h1, by omega, by omega⟩
  · rw [if_pos h1] at h; exact absurd h (by decide)
theorem q_ok1 {o : Vo} {k : Int} (h : (SM.prepF o k).2 = 0) : (SM.prepF o k).1.p ≠ 0 := by
  obtain ⟨_, h2, _, h4⟩ := SM.prepF_ok h
  rw [h4]
  show k ≠ 0
  have := h2.1
  omega
theorem q_ok2 {o : Vo} {k : Int} {v : ByteArray} (h : (SM.accF o k v).2 = 0) : (SM.accF o k v).1.p ≠ 0 := by
  obtain ⟨_, h2, _, _, h4⟩ := SM.accF_ok h
  rw [h4]
  show k ≠ 0
  have := h2.1
  omega
theorem doR_new {W : World} {base g0 : Nat} {vL vV : Value} {x : Sb} {R : Array Value} (hb : base ≤ W.heap.size) (hS : Box W g0 25 #[vL, vV]) (hO : StOwn W base (.agg #[vL, vV]) x) : DoR W base g0 W.heap.size vL vV x R (W.alloc (.cells R 29)) := by
  have hb0 : Below W.heap.size W (W.alloc (.cells R 29)) := (Below.refl _ _).alloc (Nat.le_refl _) _
  exact ⟨DoKeep.ofBelow (hb0.mono hb) _, hb, Nat.le_refl _, hS.below hb0 hS.lt, Box.new _ _ _, hO.below hb0⟩
set_option maxHeartbeats 8000000 in
theorem do_wr (g0 base : Nat) (A B : Option Addr) (c d : Nat) (x : Sb) (k : Int) (g s b : Int) (t : ByteArray) (W : World) (hb : base ≤ W.heap.size) (hS : Box W g0 25 #[.slice A x.logs.length c, .slice B x.votes.length d])
    (hO : StOwn W base (.agg #[.slice A x.logs.length c, .slice B x.votes.length d]) x) (hm : SM.may x) (hr : RM.may ⟨k, g, s, b, t⟩) (hw : wrF x.logs k g s ≠ 0) :
    Calls Try.prog 38 #[.pointer (some ⟨g0, 0, none⟩), .agg #[.int .u8 k, .int .i64 g, .int .i64 s, .int .i64 b, .string t]] W (DoPost base g0 x ⟨k, g, s, b, t⟩ W) := by
  have HE := Lib.hid (app_wr hm hr hw)
  have hwb : (wrF x.logs k g s != 0) = true := by simpa using hw
  have HW := Lib.hid hw
  simp only at HE
  clear hw
  have hls : ∀ l ∈ x.logs, l.length ≤ 2000 := fun l hl => Nat.le_trans ((SM.may_logs hm).1 l hl) (by decide)
  have hvl := SM.votes_le hm
  have h44 := hm.1.2
  have D := Lib.hid (doR_new (R := #[.int .u8 k, .int .i64 g, .int .i64 s, .int .i64 b, .string t]) hb hS hO)
  have CW := Lib.hid (fun (w : World) (v : StIs w (.agg #[.slice A x.logs.length c, .slice B x.votes.length d]) x) => (by
    obtain ⟨A', c', B', d', e, h1, h2⟩ := v
    injection e with e
    injection e with e
    injection e with e1 e
    injection e1 with e1 _ e2
    subst e1
    subst e2
    exact wrong_any A B c x.votes.length d x.logs k g s b t w h1 hls : Calls Try.prog 70 #[.agg #[.slice A x.logs.length c, .slice B x.votes.length d], .agg #[.int .u8 k, .int .i64 g, .int .i64 s, .int .i64 b, .string t]] w fun e w' => e = .returned (.int .i64 (wrF x.logs k g s)) ∧ Below w.heap.size w w'))
  clear hS hO hls
  go_enter Try.func38, Try.ntmps38
  go_upto_region 1 with (fail)
  generalize W.alloc (.cells #[.int .u8 k, .int .i64 g, .int .i64 s, .int .i64 b, .string t] 29) = w1 at D ⊢
  generalize W.heap.size = h at D ⊢
  have bb1 : Below w1.heap.size w1 w1.drew := (Below.refl _ _).drew
  have HSS := Lib.hid (show ∀ w', Below w1.heap.size w1 w' → ((w'.cell? ⟨g0, 0, none⟩ = some (.slice A x.logs.length c) ∧ w'.cell? ⟨g0, 1, none⟩ = some (.slice B x.votes.length d)) ∧ (w'.cell? ⟨h, 0, none⟩ = some (.int .u8 k) ∧ w'.cell? ⟨h, 1, none⟩ = some (.int .i64 g) ∧ w'.cell? ⟨h, 2, none⟩ = some (.int .i64 s) ∧ w'.cell? ⟨h, 3, none⟩ = some (.int .i64 b) ∧ w'.cell? ⟨h, 4, none⟩ = some (.string t))) from fun w' hq => ⟨⟨(D.out.below hq).bs.cell 0, (D.out.below hq).bs.cell 1⟩, sn_five (D.out.below hq).br⟩)
  obtain ⟨⟨_, _⟩, ⟨_, _, _, _, _⟩⟩ := HSS.out w1 (Below.refl _ _)
  obtain ⟨ud, hud⟩ : ∃ ud, ud = w1.drew := ⟨_, rfl⟩
  refine wp_region_held_drew (S := fun w' => ((w'.cell? ⟨g0, 0, none⟩ = some (.slice A x.logs.length c) ∧ w'.cell? ⟨g0, 1, none⟩ = some (.slice B x.votes.length d)) ∧ (w'.cell? ⟨h, 0, none⟩ = some (.int .u8 k) ∧ w'.cell? ⟨h, 1, none⟩ = some (.int .i64 g) ∧ w'.cell? ⟨h, 2, none⟩ = some (.int .i64 s) ∧ w'.cell? ⟨h, 3, none⟩ = some (.int .i64 b) ∧ w'.cell? ⟨h, 4, none⟩ = some (.string t)))) (by kernel_rfl) (HSS.out _ bb1) (fun hHeld => ?_)
  rw [← hud] at bb1 hHeld ⊢
  clear hud
  refine qT 0 ?_; try simp only [Act.put, qq]
  refine qT 1 ?_; try simp only [Act.put, qq]
  refine qT 2 ?_; try simp only [Act.put, qq]
  refine qT 3 ?_; try simp only [Act.put, qq]
  refine wpAnyH_ready (rs := [4]) (by kernel_rfl) (by simp) ?_
  refine AllReadyH.cons rfl (fun K hK => ?_) AllReadyH.nil
  go_simp
  refine (CW.out _ (D.out.below bb1).ow.is).mono ?_
  rintro e1 w2 ⟨rfl, hb4⟩
  have bb2 : Below w1.heap.size w1 w2 := bb1.trans (hb4.mono bb1.size)
  clear hb4
  refine hK.out _ _ (HSS.out _ bb2) (fun hHeld => ?_)
  clear hK
  try simp only [Act.put, qq]
  refine qT 5 ?_; try simp only [Act.put, qq]
  refine wpAnyH_done (by kernel_rfl) ?_ _
  clear hHeld HSS
  replace D := Lib.hid (D.out.below bb2)
  clear bb1 bb2 CW
  go_wp2_with fail
  go_ret
  exact do_err D.out HE.out HW.out
end Go.Proofs.Ytohiemdodffhoaa.SP

namespace Go.Proofs.Ytohiemdodffhoaa.SP
open Go.RowKit Go.Shelf
open SM (Sn Sb Vo)
set_option linter.unusedVariables false
set_option linter.unusedSimpArgs false
set_option maxRecDepth 100000
set_option maxHeartbeats 16000000 in
theorem do_1 (g0 base : Nat) (A B : Option Addr) (c d : Nat) (x : Sb) (g s b : Int) (t : ByteArray) (W : World) (hb : base ≤ W.heap.size) (hS : Box W g0 25 #[.slice A x.logs.length c, .slice B x.votes.length d])
    (hO : StOwn W base (.agg #[.slice A x.logs.length c, .slice B x.votes.length d]) x) (hm : SM.may x) (hr : RM.may ⟨1, g, s, b, t⟩) (hw : wrF x.logs 1 g s = 0) :
    Calls Try.prog 38 #[.pointer (some ⟨g0, 0, none⟩), .agg #[.int .u8 1, .int .i64 g, .int .i64 s, .int .i64 b, .string t]] W (DoPost base g0 x ⟨1, g, s, b, t⟩ W) := by
  obtain ⟨hg, h2, _⟩ := wr_ok hw
  have HE := Lib.hid (app_1 (x := x) (g := g) (s := s) (b := b) (t := t) hm hr (by omega) h2)
  have hbb := RM.may_b hr
  have htt := RM.may_v hr
  simp only at hbb htt
  have hls : ∀ l ∈ x.logs, l.length ≤ 2000 := fun l hl => Nat.le_trans ((SM.may_logs hm).1 l hl) (by decide)
  have hvl := SM.votes_le hm
  have h44 := hm.1.2
  have D := Lib.hid (doR_new (R := #[.int .u8 1, .int .i64 g, .int .i64 s, .int .i64 b, .string t]) hb hS hO)
  have CW := Lib.hid (fun (w : World) (v : StIs w (.agg #[.slice A x.logs.length c, .slice B x.votes.length d]) x) => (by
    obtain ⟨A', c', B', d', e, h1, h2⟩ := v
    injection e with e
    injection e with e
    injection e with e1 e
    injection e1 with e1 _ e2
    subst e1
    subst e2
    exact wrong_any A B c x.votes.length d x.logs 1 g s b t w h1 hls : Calls Try.prog 70 #[.agg #[.slice A x.logs.length c, .slice B x.votes.length d], .agg #[.int .u8 1, .int .i64 g, .int .i64 s, .int .i64 b, .string t]] w fun e w' => e = .returned (.int .i64 (wrF x.logs 1 g s)) ∧ Below w.heap.size w w'))
  rw [hw] at CW
  clear hS hO hls
  go_enter Try.func38, Try.ntmps38
  go_upto_region 1 with (fail)
  have HWS := Lib.hid (show W.heap.size ≤ (W.alloc (.cells #[.int .u8 1, .int .i64 g, .int .i64 s, .int .i64 b, .string t] 29)).heap.size by simp)
  generalize W.alloc (.cells #[.int .u8 1, .int .i64 g, .int .i64 s, .int .i64 b, .string t] 29) = w1 at D HWS ⊢
  obtain ⟨h, hh⟩ : ∃ h, h = W.heap.size := ⟨_, rfl⟩
  rw [← hh] at D ⊢
  have HH := Lib.hid hh
  clear hh
  have bb1 : Below w1.heap.size w1 w1.drew := (Below.refl _ _).drew
  have HSS := Lib.hid (show ∀ w', Below w1.heap.size w1 w' → ((w'.cell? ⟨g0, 0, none⟩ = some (.slice A x.logs.length c) ∧ w'.cell? ⟨g0, 1, none⟩ = some (.slice B x.votes.length d)) ∧ (w'.cell? ⟨h, 0, none⟩ = some (.int .u8 1) ∧ w'.cell? ⟨h, 1, none⟩ = some (.int .i64 g) ∧ w'.cell? ⟨h, 2, none⟩ = some (.int .i64 s) ∧ w'.cell? ⟨h, 3, none⟩ = some (.int .i64 b) ∧ w'.cell? ⟨h, 4, none⟩ = some (.string t))) from fun w' hq => ⟨⟨(D.out.below hq).bs.cell 0, (D.out.below hq).bs.cell 1⟩, sn_five (D.out.below hq).br⟩)
  obtain ⟨⟨_, _⟩, ⟨_, _, _, _, _⟩⟩ := HSS.out w1 (Below.refl _ _)
  obtain ⟨ud, hud⟩ : ∃ ud, ud = w1.drew := ⟨_, rfl⟩
  refine wp_region_held_drew (S := fun w' => ((w'.cell? ⟨g0, 0, none⟩ = some (.slice A x.logs.length c) ∧ w'.cell? ⟨g0, 1, none⟩ = some (.slice B x.votes.length d)) ∧ (w'.cell? ⟨h, 0, none⟩ = some (.int .u8 1) ∧ w'.cell? ⟨h, 1, none⟩ = some (.int .i64 g) ∧ w'.cell? ⟨h, 2, none⟩ = some (.int .i64 s) ∧ w'.cell? ⟨h, 3, none⟩ = some (.int .i64 b) ∧ w'.cell? ⟨h, 4, none⟩ = some (.string t)))) (by kernel_rfl) (HSS.out _ bb1) (fun hHeld => ?_)
  rw [← hud] at bb1 hHeld ⊢
  clear hud
  refine qT 0 ?_; try simp only [Act.put, qq]
  refine qT 1 ?_; try simp only [Act.put, qq]
  refine qT 2 ?_; try simp only [Act.put, qq]
  refine qT 3 ?_; try simp only [Act.put, qq]
  refine wpAnyH_ready (rs := [4]) (by kernel_rfl) (by simp) ?_
  refine AllReadyH.cons rfl (fun K hK => ?_) AllReadyH.nil
  go_simp
  refine (CW.out _ (D.out.below bb1).ow.is).mono ?_
  rintro e1 w2 ⟨rfl, hb4⟩
  have bb2 : Below w1.heap.size w1 w2 := bb1.trans (hb4.mono bb1.size)
  clear hb4
  refine hK.out _ _ (HSS.out _ bb2) (fun hHeld => ?_)
  clear hK
  try simp only [Act.put, qq]
  refine qT 5 ?_; try simp only [Act.put, qq]
  refine wpAnyH_done (by kernel_rfl) ?_ _
  clear hHeld HSS
  replace D := Lib.hid (D.out.below bb2)
  replace HWS := Lib.hid (Nat.le_trans HWS.out bb2.size)
  clear bb1 bb2 CW
  go_upto_region 4 with (fail)
  have CV := Lib.hid (fun (w : World) (h : Below w2.heap.size w2 w) => voteat_any B x.votes.length d x.votes g s w ((do_votes D.out).below h) (SM.may_rises hm) (by omega))
  have hfm := SM.find_may hm g s
  obtain ⟨o, ho⟩ : ∃ o, o = SM.find x.votes g s := ⟨_, rfl⟩
  rw [← ho] at CV hfm HE
  clear ho
  have bb1 : Below w2.heap.size w2 w2.drew := (Below.refl _ _).drew
  have HSS := Lib.hid (show ∀ w', Below w2.heap.size w2 w' → ((w'.cell? ⟨g0, 0, none⟩ = some (.slice A x.logs.length c) ∧ w'.cell? ⟨g0, 1, none⟩ = some (.slice B x.votes.length d)) ∧ (w'.cell? ⟨h, 0, none⟩ = some (.int .u8 1) ∧ w'.cell? ⟨h, 1, none⟩ = some (.int .i64 g) ∧ w'.cell? ⟨h, 2, none⟩ = some (.int .i64 s) ∧ w'.cell? ⟨h, 3, none⟩ = some (.int .i64 b) ∧ w'.cell? ⟨h, 4, none⟩ = some (.string t))) from fun w' hq => ⟨⟨(D.out.below hq).bs.cell 0, (D.out.below hq).bs.cell 1⟩, sn_five (D.out.below hq).br⟩)
  go_cut [6, 7] (fun u6 u7 wx => VMid w2 o u6 u7 wx)
  case first =>
    obtain ⟨⟨_, _⟩, ⟨_, _, _, _, _⟩⟩ := HSS.out w2 (Below.refl _ _)
    go_region_held3 (fun w' => ((w'.cell? ⟨g0, 0, none⟩ = some (.slice A x.logs.length c) ∧ w'.cell? ⟨g0, 1, none⟩ = some (.slice B x.votes.length d)) ∧ (w'.cell? ⟨h, 0, none⟩ = some (.int .u8 1) ∧ w'.cell? ⟨h, 1, none⟩ = some (.int .i64 g) ∧ w'.cell? ⟨h, 2, none⟩ = some (.int .i64 s) ∧ w'.cell? ⟨h, 3, none⟩ = some (.int .i64 b) ∧ w'.cell? ⟨h, 4, none⟩ = some (.string t))))
      (first | exact HSS.out _ bb2 | exact HSS.out _ (bb2.alloc bb2.size _) | exact HSS.out _ (((bb2.setCell (p := ⟨_, 0, none⟩) (Nat.le_refl _) _).setCell (p := ⟨_, 1, none⟩) (Nat.le_refl _) _).setCell (p := ⟨_, 2, none⟩) (Nat.le_refl _) _) | exact HSS.out _ bb1 | exact HSS.out _ (((Below.refl _ _).alloc (Nat.le_refl _) _).drew) | go_keep)
      (first
        | (go_at_call 45; ((first | with_reducible refine (CV.out _ bb1).mono ?_ | with_reducible refine (CV.out _ (((Below.refl _ _).alloc (Nat.le_refl _) _).drew)).mono ?_); rintro e wa ⟨rfl, ha⟩; (first | (have hq := vf_2 (o := o) ha; have bb2 := hq.1; obtain ⟨q0, q1, q2, q3, q4, q5⟩ := hq.2.1.three; have mid := Lib.hid hq.2.2; clear hq) | (have hq := vf_1 (o := o) ha; have bb2 := hq.1; have mid := Lib.hid hq.2; clear hq)); clear ha)))
    all_goals (go_wp2_with fail; go_meet; case rel => exact mid.out)
  case rest =>
    obtain ⟨gv, rfl, rfl, hgv, hV, hB⟩ := hcut
    replace D := Lib.hid (D.out.below hB)
    have V := Lib.hid hV
    have hgv2 : W.heap.size ≤ gv := Nat.le_trans HWS.out hgv
    clear HSS CV bb1 hV hB
    obtain ⟨hm1, hm2⟩ := hfm
    obtain ⟨⟨p1, p2⟩, ⟨q1, q2⟩, hv3⟩ := vo_fit hm1
    have CP := Lib.hid (fun (w : World) => VP.prep_any w (by omega) (by omega) (by omega) (by omega) (by unfold maxLen; omega) (by omega) (by omega) (SM.prepF_is o b))
    have HPO := Lib.hid (q_ok1 (o := o) (k := b))
    obtain ⟨q, hq⟩ : ∃ q, q = SM.prepF o b := ⟨_, rfl⟩
    rw [← hq] at CP HE HPO
    clear hq
    obtain ⟨⟨qp, qb, qv⟩, qe⟩ := q
    simp only at CP HE HPO
    obtain ⟨r0, r1, r2, r3, r4⟩ := sn_five D.out.br
    obtain ⟨v0, v1, v2, u0, u1, u2⟩ := V.out.three
    go_wp2_with fail
    refine (CP.out _).mono ?_
    rintro e w3 ⟨rfl, hb3⟩
    clear r0 r1 r2 r3 r4 v0 v1 v2 u0 u1 u2 CP
    replace D := Lib.hid (D.out.below hb3)
    replace V := Lib.hid (V.out.below hb3 V.out.lt)
    clear hb3
    obtain ⟨v0, v1, v2, u0, u1, u2⟩ := V.out.three
    have D2 := Lib.hid (((D.out.setv V.out hgv2 (i := 0) (.int .i64 qp)).setv (V.out.stored 0 (.int .i64 qp)) hgv2 (i := 1) (.int .i64 qb)).setv ((V.out.stored 0 (.int .i64 qp)).stored 1 (.int .i64 qb)) hgv2 (i := 2) (.string qv))
    have V2 := Lib.hid (V.out.put3 (.int .i64 qp) (.int .i64 qb) (.string qv))
    clear D V
    by_cases hqe : qe = 0
    case neg =>
      have tq : (qe != 0) = true := by simpa using hqe
      have HE2 := Lib.hid (show SM.appF x ⟨1, g, s, b, t⟩ = (SM.zero, qe) by rw [HE.out]; exact if_pos hqe)
      have HQE := Lib.hid hqe
      clear hqe
      go_wp2_with fail
      go_ret
      exact do_err D2.out HE2.out HQE.out
    subst hqe
    have HE2 := Lib.hid (show SM.appF x ⟨1, g, s, b, t⟩ = (⟨x.logs, SM.put x.votes ⟨g, s, ⟨qp, qb, qv⟩⟩⟩, 0) by rw [HE.out]; exact if_neg (fun h => h rfl))
    have HXO := Lib.hid (show (⟨g, s, ⟨qp, qb, qv⟩⟩ : Sn).o = SM.vz ∨ (⟨g, s, ⟨qp, qb, qv⟩⟩ : Sn).o.p ≠ 0 from .inr (HPO.out rfl))
    have HRI := Lib.hid (SM.may_rises hm)
    clear HE HPO
    go_upto_region 15 with (fail)
    clear v0 v1 v2 u0 u1 u2
    generalize ((w3.setCell ⟨gv, 0, none⟩ (.int .i64 qp)).setCell ⟨gv, 1, none⟩ (.int .i64 qb)).setCell ⟨gv, 2, none⟩ (.string qv) = w4 at D2 V2 ⊢
    have D := Lib.hid D2.out
    have V := Lib.hid V2.out
    clear D2 V2
    have HSS := Lib.hid (fun (w' : World) (hx : Box w' h 29 #[.int .u8 1, .int .i64 g, .int .i64 s, .int .i64 b, .string t]) (hy : Box w' gv 48 #[.int .i64 qp, .int .i64 qb, .string qv]) => (⟨sn_five hx, ⟨hy.cell 0, hy.cell 1, hy.cell 2⟩⟩ : ((w'.cell? ⟨h, 0, none⟩ = some (.int .u8 1) ∧ w'.cell? ⟨h, 1, none⟩ = some (.int .i64 g) ∧ w'.cell? ⟨h, 2, none⟩ = some (.int .i64 s) ∧ w'.cell? ⟨h, 3, none⟩ = some (.int .i64 b) ∧ w'.cell? ⟨h, 4, none⟩ = some (.string t)) ∧ (w'.cell? ⟨gv, 0, none⟩ = some (.int .i64 qp) ∧ w'.cell? ⟨gv, 1, none⟩ = some (.int .i64 qb) ∧ w'.cell? ⟨gv, 2, none⟩ = some (.string qv)))))
    have hd : Below w4.heap.size w4 w4.drew := (Below.refl _ _).drew
    obtain ⟨ud, hud⟩ : ∃ ud, ud = w4.drew := ⟨_, rfl⟩
    rw [← hud] at hd
    replace D := Lib.hid (D.out.below hd)
    replace V := Lib.hid (V.out.below hd V.out.lt)
    have CP := Lib.hid (put_any base x.votes.length d B x.votes (⟨g, s, ⟨qp, qb, qv⟩⟩ : Sn) ud (Nat.le_trans D.out.hb D.out.kp.size) (do_own D.out) rfl HRI.out (by omega) HXO.out)
    clear hd
    refine wp_region_held_drew (S := fun w' => ((w'.cell? ⟨h, 0, none⟩ = some (.int .u8 1) ∧ w'.cell? ⟨h, 1, none⟩ = some (.int .i64 g) ∧ w'.cell? ⟨h, 2, none⟩ = some (.int .i64 s) ∧ w'.cell? ⟨h, 3, none⟩ = some (.int .i64 b) ∧ w'.cell? ⟨h, 4, none⟩ = some (.string t)) ∧ (w'.cell? ⟨gv, 0, none⟩ = some (.int .i64 qp) ∧ w'.cell? ⟨gv, 1, none⟩ = some (.int .i64 qb) ∧ w'.cell? ⟨gv, 2, none⟩ = some (.string qv)))) (by kernel_rfl) (by rw [← hud]; exact HSS.out _ D.out.br V.out) (fun hHeld => ?_)
    rw [← hud] at hHeld ⊢
    clear hud
    refine qT 0 ?_; try simp only [Act.put, qq]
    refine qT 1 ?_; try simp only [Act.put, qq]
    refine qT 2 ?_; try simp only [Act.put, qq]
    refine qT 3 ?_; try simp only [Act.put, qq]
    refine qT 5 ?_; try simp only [Act.put, qq]
    refine qT 6 ?_; try simp only [Act.put, qq]
    refine qT 7 ?_; try simp only [Act.put, qq]
    refine qT 8 ?_; try simp only [Act.put, qq]
    refine qT 9 ?_; try simp only [Act.put, qq]
    refine qT 10 ?_; try simp only [Act.put, qq]
    refine wpAnyH_ready (rs := [4]) (by kernel_rfl) (by simp) ?_
    refine AllReadyH.cons rfl (fun K hK => ?_) AllReadyH.nil
    obtain ⟨s0, s1, f0, f1⟩ := D.out.bs.two
    go_simp
    refine hK.out _ _ (HSS.out _ D.out.br V.out) (fun hHeld => ?_)
    clear hK s0 s1 f0 f1
    try simp only [Act.put, qq]
    refine wpAnyH_ready (rs := [11]) (by kernel_rfl) (by simp) ?_
    refine AllReadyH.cons rfl (fun K hK => ?_) AllReadyH.nil
    go_simp
    refine (CP.out).mono ?_
    rintro e1 w9 ⟨F, f, rfl, ho9, hg9⟩
    have HQ := Lib.hid (D.out.put (Nat.le_trans D.out.hb D.out.hh) ho9 hg9)
    clear ho9 hg9 CP
    refine hK.out _ _ (HSS.out _ (HQ.out.2.2.2.2 _ _ _ (by decide) (by decide) D.out.br).1 (HQ.out.2.2.2.2 _ _ _ (by decide) (by decide) V.out).1) (fun hHeld => ?_)
    clear hK
    try simp only [Act.put, qq]
    refine qT 12 ?_; try simp only [Act.put, qq]
    refine qT 13 ?_; try simp only [Act.put, qq]
    refine wpAnyH_ready (rs := [14]) (by kernel_rfl) (by simp) ?_
    refine AllReadyH.cons rfl (fun K hK => ?_) AllReadyH.nil
    obtain ⟨s0, s1, f0, f1⟩ := HQ.out.1.two
    go_simp
    refine hK.out _ _ (HSS.out _ (HQ.out.2.2.2.2 _ _ _ (by decide) (by decide) D.out.br).2 (HQ.out.2.2.2.2 _ _ _ (by decide) (by decide) V.out).2) (fun hHeld => ?_)
    clear hK s0 s1 f0 f1
    try simp only [Act.put, qq]
    refine wpAnyH_done (by kernel_rfl) ?_ _
    clear hHeld HSS
    go_wp2_with fail
    go_ret
    exact ⟨by rw [HE2.out]; rfl, HQ.out.2.1, fun _ => ⟨_, _, HQ.out.2.2.1, by rw [HE2.out]; exact HQ.out.2.2.2.1⟩⟩
end Go.Proofs.Ytohiemdodffhoaa.SP

namespace Go.Proofs.Ytohiemdodffhoaa.SP
open Go.RowKit Go.Shelf
open SM (Sn Sb Vo)
set_option linter.unusedVariables false
set_option linter.unusedSimpArgs false
set_option maxRecDepth 100000
set_option maxHeartbeats 16000000 in
theorem do_2 (g0 base : Nat) (A B : Option Addr) (c d : Nat) (x : Sb) (g s b : Int) (t : ByteArray) (W : World) (hb : base ≤ W.heap.size) (hS : Box W g0 25 #[.slice A x.logs.length c, .slice B x.votes.length d])
    (hO : StOwn W base (.agg #[.slice A x.logs.length c, .slice B x.votes.length d]) x) (hm : SM.may x) (hr : RM.may ⟨2, g, s, b, t⟩) (hw : wrF x.logs 2 g s = 0) :
    Calls Try.prog 38 #[.pointer (some ⟨g0, 0, none⟩), .agg #[.int .u8 2, .int .i64 g, .int .i64 s, .int .i64 b, .string t]] W (DoPost base g0 x ⟨2, g, s, b, t⟩ W) := by
  obtain ⟨hg, h2, _⟩ := wr_ok hw
  have HE := Lib.hid (app_2 (x := x) (g := g) (s := s) (b := b) (t := t) hm hr (by omega) h2)
  have hbb := RM.may_b hr
  have htt := RM.may_v hr
  simp only at hbb htt
  have hls : ∀ l ∈ x.logs, l.length ≤ 2000 := fun l hl => Nat.le_trans ((SM.may_logs hm).1 l hl) (by decide)
  have hvl := SM.votes_le hm
  have h44 := hm.1.2
  have D := Lib.hid (doR_new (R := #[.int .u8 2, .int .i64 g, .int .i64 s, .int .i64 b, .string t]) hb hS hO)
  have CW := Lib.hid (fun (w : World) (v : StIs w (.agg #[.slice A x.logs.length c, .slice B x.votes.length d]) x) => (by
    obtain ⟨A', c', B', d', e, h1, h2⟩ := v
    injection e with e
    injection e with e
    injection e with e1 e
    injection e1 with e1 _ e2
    subst e1
    subst e2
    exact wrong_any A B c x.votes.length d x.logs 2 g s b t w h1 hls : Calls Try.prog 70 #[.agg #[.slice A x.logs.length c, .slice B x.votes.length d], .agg #[.int .u8 2, .int .i64 g, .int .i64 s, .int .i64 b, .string t]] w fun e w' => e = .returned (.int .i64 (wrF x.logs 2 g s)) ∧ Below w.heap.size w w'))
  rw [hw] at CW
  clear hS hO hls
  go_enter Try.func38, Try.ntmps38
  go_upto_region 1 with (fail)
  have HWS := Lib.hid (show W.heap.size ≤ (W.alloc (.cells #[.int .u8 2, .int .i64 g, .int .i64 s, .int .i64 b, .string t] 29)).heap.size by simp)
  generalize W.alloc (.cells #[.int .u8 2, .int .i64 g, .int .i64 s, .int .i64 b, .string t] 29) = w1 at D HWS ⊢
  obtain ⟨h, hh⟩ : ∃ h, h = W.heap.size := ⟨_, rfl⟩
  rw [← hh] at D ⊢
  have HH := Lib.hid hh
  clear hh
  have bb1 : Below w1.heap.size w1 w1.drew := (Below.refl _ _).drew
  have HSS := Lib.hid (show ∀ w', Below w1.heap.size w1 w' → ((w'.cell? ⟨g0, 0, none⟩ = some (.slice A x.logs.length c) ∧ w'.cell? ⟨g0, 1, none⟩ = some (.slice B x.votes.length d)) ∧ (w'.cell? ⟨h, 0, none⟩ = some (.int .u8 2) ∧ w'.cell? ⟨h, 1, none⟩ = some (.int .i64 g) ∧ w'.cell? ⟨h, 2, none⟩ = some (.int .i64 s) ∧ w'.cell? ⟨h, 3, none⟩ = some (.int .i64 b) ∧ w'.cell? ⟨h, 4, none⟩ = some (.string t))) from fun w' hq => ⟨⟨(D.out.below hq).bs.cell 0, (D.out.below hq).bs.cell 1⟩, sn_five (D.out.below hq).br⟩)
  obtain ⟨⟨_, _⟩, ⟨_, _, _, _, _⟩⟩ := HSS.out w1 (Below.refl _ _)
  obtain ⟨ud, hud⟩ : ∃ ud, ud = w1.drew := ⟨_, rfl⟩
  refine wp_region_held_drew (S := fun w' => ((w'.cell? ⟨g0, 0, none⟩ = some (.slice A x.logs.length c) ∧ w'.cell? ⟨g0, 1, none⟩ = some (.slice B x.votes.length d)) ∧ (w'.cell? ⟨h, 0, none⟩ = some (.int .u8 2) ∧ w'.cell? ⟨h, 1, none⟩ = some (.int .i64 g) ∧ w'.cell? ⟨h, 2, none⟩ = some (.int .i64 s) ∧ w'.cell? ⟨h, 3, none⟩ = some (.int .i64 b) ∧ w'.cell? ⟨h, 4, none⟩ = some (.string t)))) (by kernel_rfl) (HSS.out _ bb1) (fun hHeld => ?_)
  rw [← hud] at bb1 hHeld ⊢
  clear hud
  refine qT 0 ?_; try simp only [Act.put, qq]
  refine qT 1 ?_; try simp only [Act.put, qq]
  refine qT 2 ?_; try simp only [Act.put, qq]
  refine qT 3 ?_; try simp only [Act.put, qq]
  refine wpAnyH_ready (rs := [4]) (by kernel_rfl) (by simp) ?_
  refine AllReadyH.cons rfl (fun K hK => ?_) AllReadyH.nil
  go_simp
  refine (CW.out _ (D.out.below bb1).ow.is).mono ?_
  rintro e1 w2 ⟨rfl, hb4⟩
  have bb2 : Below w1.heap.size w1 w2 := bb1.trans (hb4.mono bb1.size)
  clear hb4
  refine hK.out _ _ (HSS.out _ bb2) (fun hHeld => ?_)
  clear hK
  try simp only [Act.put, qq]
  refine qT 5 ?_; try simp only [Act.put, qq]
  refine wpAnyH_done (by kernel_rfl) ?_ _
  clear hHeld HSS
  replace D := Lib.hid (D.out.below bb2)
  replace HWS := Lib.hid (Nat.le_trans HWS.out bb2.size)
  clear bb1 bb2 CW
  go_upto_region 4 with (fail)
  have CV := Lib.hid (fun (w : World) (h : Below w2.heap.size w2 w) => voteat_any B x.votes.length d x.votes g s w ((do_votes D.out).below h) (SM.may_rises hm) (by omega))
  have hfm := SM.find_may hm g s
  obtain ⟨o, ho⟩ : ∃ o, o = SM.find x.votes g s := ⟨_, rfl⟩
  rw [← ho] at CV hfm HE
  clear ho
  have bb1 : Below w2.heap.size w2 w2.drew := (Below.refl _ _).drew
  have HSS := Lib.hid (show ∀ w', Below w2.heap.size w2 w' → ((w'.cell? ⟨g0, 0, none⟩ = some (.slice A x.logs.length c) ∧ w'.cell? ⟨g0, 1, none⟩ = some (.slice B x.votes.length d)) ∧ (w'.cell? ⟨h, 0, none⟩ = some (.int .u8 2) ∧ w'.cell? ⟨h, 1, none⟩ = some (.int .i64 g) ∧ w'.cell? ⟨h, 2, none⟩ = some (.int .i64 s) ∧ w'.cell? ⟨h, 3, none⟩ = some (.int .i64 b) ∧ w'.cell? ⟨h, 4, none⟩ = some (.string t))) from fun w' hq => ⟨⟨(D.out.below hq).bs.cell 0, (D.out.below hq).bs.cell 1⟩, sn_five (D.out.below hq).br⟩)
  go_cut [6, 7] (fun u6 u7 wx => VMid w2 o u6 u7 wx)
  case first =>
    obtain ⟨⟨_, _⟩, ⟨_, _, _, _, _⟩⟩ := HSS.out w2 (Below.refl _ _)
    go_region_held3 (fun w' => ((w'.cell? ⟨g0, 0, none⟩ = some (.slice A x.logs.length c) ∧ w'.cell? ⟨g0, 1, none⟩ = some (.slice B x.votes.length d)) ∧ (w'.cell? ⟨h, 0, none⟩ = some (.int .u8 2) ∧ w'.cell? ⟨h, 1, none⟩ = some (.int .i64 g) ∧ w'.cell? ⟨h, 2, none⟩ = some (.int .i64 s) ∧ w'.cell? ⟨h, 3, none⟩ = some (.int .i64 b) ∧ w'.cell? ⟨h, 4, none⟩ = some (.string t))))
      (first | exact HSS.out _ bb2 | exact HSS.out _ (bb2.alloc bb2.size _) | exact HSS.out _ (((bb2.setCell (p := ⟨_, 0, none⟩) (Nat.le_refl _) _).setCell (p := ⟨_, 1, none⟩) (Nat.le_refl _) _).setCell (p := ⟨_, 2, none⟩) (Nat.le_refl _) _) | exact HSS.out _ bb1 | exact HSS.out _ (((Below.refl _ _).alloc (Nat.le_refl _) _).drew) | go_keep)
      (first
        | (go_at_call 45; ((first | with_reducible refine (CV.out _ bb1).mono ?_ | with_reducible refine (CV.out _ (((Below.refl _ _).alloc (Nat.le_refl _) _).drew)).mono ?_); rintro e wa ⟨rfl, ha⟩; (first | (have hq := vf_2 (o := o) ha; have bb2 := hq.1; obtain ⟨q0, q1, q2, q3, q4, q5⟩ := hq.2.1.three; have mid := Lib.hid hq.2.2; clear hq) | (have hq := vf_1 (o := o) ha; have bb2 := hq.1; have mid := Lib.hid hq.2; clear hq)); clear ha)))
    all_goals (go_wp2_with fail; go_meet; case rel => exact mid.out)
  case rest =>
    obtain ⟨gv, rfl, rfl, hgv, hV, hB⟩ := hcut
    replace D := Lib.hid (D.out.below hB)
    have V := Lib.hid hV
    have hgv2 : W.heap.size ≤ gv := Nat.le_trans HWS.out hgv
    clear HSS CV bb1 hV hB
    obtain ⟨hm1, hm2⟩ := hfm
    obtain ⟨⟨p1, p2⟩, ⟨q1, q2⟩, hv3⟩ := vo_fit hm1
    have CP := Lib.hid (fun (w : World) => VP.acc_any w (by omega) (by omega) (by omega) (by omega) (by unfold maxLen; omega) (by omega) (by omega) (by unfold maxLen; omega) (SM.accF_is o b t))
    have HPO := Lib.hid (q_ok2 (o := o) (k := b) (v := t))
    obtain ⟨q, hq⟩ : ∃ q, q = SM.accF o b t := ⟨_, rfl⟩
    rw [← hq] at CP HE HPO
    clear hq
    obtain ⟨⟨qp, qb, qv⟩, qe⟩ := q
    simp only at CP HE HPO
    obtain ⟨r0, r1, r2, r3, r4⟩ := sn_five D.out.br
    obtain ⟨v0, v1, v2, u0, u1, u2⟩ := V.out.three
    go_wp2_with fail
    refine (CP.out _).mono ?_
    rintro e w3 ⟨rfl, hb3⟩
    clear r0 r1 r2 r3 r4 v0 v1 v2 u0 u1 u2 CP
    replace D := Lib.hid (D.out.below hb3)
    replace V := Lib.hid (V.out.below hb3 V.out.lt)
    clear hb3
    obtain ⟨v0, v1, v2, u0, u1, u2⟩ := V.out.three
    have D2 := Lib.hid (((D.out.setv V.out hgv2 (i := 0) (.int .i64 qp)).setv (V.out.stored 0 (.int .i64 qp)) hgv2 (i := 1) (.int .i64 qb)).setv ((V.out.stored 0 (.int .i64 qp)).stored 1 (.int .i64 qb)) hgv2 (i := 2) (.string qv))
    have V2 := Lib.hid (V.out.put3 (.int .i64 qp) (.int .i64 qb) (.string qv))
    clear D V
    by_cases hqe : qe = 0
    case neg =>
      have tq : (qe != 0) = true := by simpa using hqe
      have HE2 := Lib.hid (show SM.appF x ⟨2, g, s, b, t⟩ = (SM.zero, qe) by rw [HE.out]; exact if_pos hqe)
      have HQE := Lib.hid hqe
      clear hqe
      go_wp2_with fail
      go_ret
      exact do_err D2.out HE2.out HQE.out
    subst hqe
    have HE2 := Lib.hid (show SM.appF x ⟨2, g, s, b, t⟩ = (⟨x.logs, SM.put x.votes ⟨g, s, ⟨qp, qb, qv⟩⟩⟩, 0) by rw [HE.out]; exact if_neg (fun h => h rfl))
    have HXO := Lib.hid (show (⟨g, s, ⟨qp, qb, qv⟩⟩ : Sn).o = SM.vz ∨ (⟨g, s, ⟨qp, qb, qv⟩⟩ : Sn).o.p ≠ 0 from .inr (HPO.out rfl))
    have HRI := Lib.hid (SM.may_rises hm)
    clear HE HPO
    go_upto_region 15 with (fail)
    clear v0 v1 v2 u0 u1 u2
    generalize ((w3.setCell ⟨gv, 0, none⟩ (.int .i64 qp)).setCell ⟨gv, 1, none⟩ (.int .i64 qb)).setCell ⟨gv, 2, none⟩ (.string qv) = w4 at D2 V2 ⊢
    have D := Lib.hid D2.out
    have V := Lib.hid V2.out
    clear D2 V2
    have HSS := Lib.hid (fun (w' : World) (hx : Box w' h 29 #[.int .u8 2, .int .i64 g, .int .i64 s, .int .i64 b, .string t]) (hy : Box w' gv 48 #[.int .i64 qp, .int .i64 qb, .string qv]) => (⟨sn_five hx, ⟨hy.cell 0, hy.cell 1, hy.cell 2⟩⟩ : ((w'.cell? ⟨h, 0, none⟩ = some (.int .u8 2) ∧ w'.cell? ⟨h, 1, none⟩ = some (.int .i64 g) ∧ w'.cell? ⟨h, 2, none⟩ = some (.int .i64 s) ∧ w'.cell? ⟨h, 3, none⟩ = some (.int .i64 b) ∧ w'.cell? ⟨h, 4, none⟩ = some (.string t)) ∧ (w'.cell? ⟨gv, 0, none⟩ = some (.int .i64 qp) ∧ w'.cell? ⟨gv, 1, none⟩ = some (.int .i64 qb) ∧ w'.cell? ⟨gv, 2, none⟩ = some (.string qv)))))
    have hd : Below w4.heap.size w4 w4.drew := (Below.refl _ _).drew
    obtain ⟨ud, hud⟩ : ∃ ud, ud = w4.drew := ⟨_, rfl⟩
    rw [← hud] at hd
    replace D := Lib.hid (D.out.below hd)
    replace V := Lib.hid (V.out.below hd V.out.lt)
    have CP := Lib.hid (put_any base x.votes.length d B x.votes (⟨g, s, ⟨qp, qb, qv⟩⟩ : Sn) ud (Nat.le_trans D.out.hb D.out.kp.size) (do_own D.out) rfl HRI.out (by omega) HXO.out)
    clear hd
    refine wp_region_held_drew (S := fun w' => ((w'.cell? ⟨h, 0, none⟩ = some (.int .u8 2) ∧ w'.cell? ⟨h, 1, none⟩ = some (.int .i64 g) ∧ w'.cell? ⟨h, 2, none⟩ = some (.int .i64 s) ∧ w'.cell? ⟨h, 3, none⟩ = some (.int .i64 b) ∧ w'.cell? ⟨h, 4, none⟩ = some (.string t)) ∧ (w'.cell? ⟨gv, 0, none⟩ = some (.int .i64 qp) ∧ w'.cell? ⟨gv, 1, none⟩ = some (.int .i64 qb) ∧ w'.cell? ⟨gv, 2, none⟩ = some (.string qv)))) (by kernel_rfl) (by rw [← hud]; exact HSS.out _ D.out.br V.out) (fun hHeld => ?_)
    rw [← hud] at hHeld ⊢
    clear hud
    refine qT 0 ?_; try simp only [Act.put, qq]
    refine qT 1 ?_; try simp only [Act.put, qq]
    refine qT 2 ?_; try simp only [Act.put, qq]
    refine qT 3 ?_; try simp only [Act.put, qq]
    refine qT 5 ?_; try simp only [Act.put, qq]
    refine qT 6 ?_; try simp only [Act.put, qq]
    refine qT 7 ?_; try simp only [Act.put, qq]
    refine qT 8 ?_; try simp only [Act.put, qq]
    refine qT 9 ?_; try simp only [Act.put, qq]
    refine qT 10 ?_; try simp only [Act.put, qq]
    refine wpAnyH_ready (rs := [4]) (by kernel_rfl) (by simp) ?_
    refine AllReadyH.cons rfl (fun K hK => ?_) AllReadyH.nil
    obtain ⟨s0, s1, f0, f1⟩ := D.out.bs.two
    go_simp
    refine hK.out _ _ (HSS.out _ D.out.br V.out) (fun hHeld => ?_)
    clear hK s0 s1 f0 f1
    try simp only [Act.put, qq]
    refine wpAnyH_ready (rs := [11]) (by kernel_rfl) (by simp) ?_
    refine AllReadyH.cons rfl (fun K hK => ?_) AllReadyH.nil
    go_simp
    refine (CP.out).mono ?_
    rintro e1 w9 ⟨F, f, rfl, ho9, hg9⟩
    have HQ := Lib.hid (D.out.put (Nat.le_trans D.out.hb D.out.hh) ho9 hg9)
    clear ho9 hg9 CP
    refine hK.out _ _ (HSS.out _ (HQ.out.2.2.2.2 _ _ _ (by decide) (by decide) D.out.br).1 (HQ.out.2.2.2.2 _ _ _ (by decide) (by decide) V.out).1) (fun hHeld => ?_)
    clear hK
    try simp only [Act.put, qq]
    refine qT 12 ?_; try simp only [Act.put, qq]
    refine qT 13 ?_; try simp only [Act.put, qq]
    refine wpAnyH_ready (rs := [14]) (by kernel_rfl) (by simp) ?_
    refine AllReadyH.cons rfl (fun K hK => ?_) AllReadyH.nil
    obtain ⟨s0, s1, f0, f1⟩ := HQ.out.1.two
    go_simp
    refine hK.out _ _ (HSS.out _ (HQ.out.2.2.2.2 _ _ _ (by decide) (by decide) D.out.br).2 (HQ.out.2.2.2.2 _ _ _ (by decide) (by decide) V.out).2) (fun hHeld => ?_)
    clear hK s0 s1 f0 f1
    try simp only [Act.put, qq]
    refine wpAnyH_done (by kernel_rfl) ?_ _
    clear hHeld HSS
    go_wp2_with fail
    go_ret
    exact ⟨by rw [HE2.out]; rfl, HQ.out.2.1, fun _ => ⟨_, _, HQ.out.2.2.1, by rw [HE2.out]; exact HQ.out.2.2.2.1⟩⟩
end Go.Proofs.Ytohiemdodffhoaa.SP

namespace Go.Proofs.Ytohiemdodffhoaa.SP
open Go.RowKit Go.Shelf
open SM (Sn Sb Vo)
set_option linter.unusedVariables false
set_option linter.unusedSimpArgs false
set_option maxRecDepth 100000
set_option maxHeartbeats 16000000 in
theorem do_3 (g0 base : Nat) (A B : Option Addr) (c d : Nat) (x : Sb) (gi : Nat) (s b : Int) (t : ByteArray) (W : World) (hb : base ≤ W.heap.size) (hS : Box W g0 25 #[.slice A x.logs.length c, .slice B x.votes.length d])
    (hO : StOwn W base (.agg #[.slice A x.logs.length c, .slice B x.votes.length d]) x) (hm : SM.may x) (hr : RM.may ⟨3, (gi : Int), s, b, t⟩) (hw : wrF x.logs 3 gi s = 0) :
    Calls Try.prog 38 #[.pointer (some ⟨g0, 0, none⟩), .agg #[.int .u8 3, .int .i64 gi, .int .i64 s, .int .i64 b, .string t]] W (DoPost base g0 x ⟨3, gi, s, b, t⟩ W) := by
  obtain ⟨g, hgd⟩ : ∃ g : Int, g = gi := ⟨_, rfl⟩
  rw [← hgd] at hr hw ⊢
  obtain ⟨hg, h2, h3⟩ := wr_ok hw
  have HE := Lib.hid (app_3 (x := x) (g := g) (s := s) (t := t) hm (by have := RM.may_b hr; rcases hr.2.2 with ⟨h, _⟩ | ⟨h, _⟩ | ⟨_, h, h'⟩; exact absurd h (show ¬ (3 : Int) = 1 by decide); exact absurd h (show ¬ (3 : Int) = 2 by decide); simp only at h; subst h; exact hr) (by omega) h2 (h3 rfl))
  have hb0 : b = 0 := by rcases hr.2.2 with ⟨h, _⟩ | ⟨h, _⟩ | ⟨_, h, h'⟩; exact absurd h (show ¬ (3 : Int) = 1 by decide); exact absurd h (show ¬ (3 : Int) = 2 by decide); exact h
  have HB0 := Lib.hid hb0
  have HGD := Lib.hid hgd
  have hgl : gi < x.logs.length := by omega
  have hg1 : (0 : Int) ≤ g := hg.1
  have hg2 : g < (x.logs.length : Int) := hg.2
  clear hgd hb0 h3 h2
  have hls : ∀ l ∈ x.logs, l.length ≤ 2000 := fun l hl => Nat.le_trans ((SM.may_logs hm).1 l hl) (by decide)
  have hvl := SM.votes_le hm
  have h44 := hm.1.2
  have D := Lib.hid (doR_new (R := #[.int .u8 3, .int .i64 g, .int .i64 s, .int .i64 b, .string t]) hb hS hO)
  have CW := Lib.hid (fun (w : World) (v : StIs w (.agg #[.slice A x.logs.length c, .slice B x.votes.length d]) x) => (by
    obtain ⟨A', c', B', d', e, h1, h2⟩ := v
    injection e with e
    injection e with e
    injection e with e1 e
    injection e1 with e1 _ e2
    subst e1
    subst e2
    exact wrong_any A B c x.votes.length d x.logs 3 g s b t w h1 hls : Calls Try.prog 70 #[.agg #[.slice A x.logs.length c, .slice B x.votes.length d], .agg #[.int .u8 3, .int .i64 g, .int .i64 s, .int .i64 b, .string t]] w fun e w' => e = .returned (.int .i64 (wrF x.logs 3 g s)) ∧ Below w.heap.size w w'))
  rw [hw] at CW
  clear hS hO hls
  go_enter Try.func38, Try.ntmps38
  go_upto_region 1 with (fail)
  have HWS := Lib.hid (show W.heap.size ≤ (W.alloc (.cells #[.int .u8 3, .int .i64 g, .int .i64 s, .int .i64 b, .string t] 29)).heap.size by simp)
  generalize W.alloc (.cells #[.int .u8 3, .int .i64 g, .int .i64 s, .int .i64 b, .string t] 29) = w1 at D HWS ⊢
  obtain ⟨h, hh⟩ : ∃ h, h = W.heap.size := ⟨_, rfl⟩
  rw [← hh] at D ⊢
  have HH := Lib.hid hh
  clear hh
  have bb1 : Below w1.heap.size w1 w1.drew := (Below.refl _ _).drew
  have HSS := Lib.hid (show ∀ w', Below w1.heap.size w1 w' → ((w'.cell? ⟨g0, 0, none⟩ = some (.slice A x.logs.length c) ∧ w'.cell? ⟨g0, 1, none⟩ = some (.slice B x.votes.length d)) ∧ (w'.cell? ⟨h, 0, none⟩ = some (.int .u8 3) ∧ w'.cell? ⟨h, 1, none⟩ = some (.int .i64 g) ∧ w'.cell? ⟨h, 2, none⟩ = some (.int .i64 s) ∧ w'.cell? ⟨h, 3, none⟩ = some (.int .i64 b) ∧ w'.cell? ⟨h, 4, none⟩ = some (.string t))) from fun w' hq => ⟨⟨(D.out.below hq).bs.cell 0, (D.out.below hq).bs.cell 1⟩, sn_five (D.out.below hq).br⟩)
  obtain ⟨⟨_, _⟩, ⟨_, _, _, _, _⟩⟩ := HSS.out w1 (Below.refl _ _)
  obtain ⟨ud, hud⟩ : ∃ ud, ud = w1.drew := ⟨_, rfl⟩
  refine wp_region_held_drew (S := fun w' => ((w'.cell? ⟨g0, 0, none⟩ = some (.slice A x.logs.length c) ∧ w'.cell? ⟨g0, 1, none⟩ = some (.slice B x.votes.length d)) ∧ (w'.cell? ⟨h, 0, none⟩ = some (.int .u8 3) ∧ w'.cell? ⟨h, 1, none⟩ = some (.int .i64 g) ∧ w'.cell? ⟨h, 2, none⟩ = some (.int .i64 s) ∧ w'.cell? ⟨h, 3, none⟩ = some (.int .i64 b) ∧ w'.cell? ⟨h, 4, none⟩ = some (.string t)))) (by kernel_rfl) (HSS.out _ bb1) (fun hHeld => ?_)
  rw [← hud] at bb1 hHeld ⊢
  clear hud
  refine qT 0 ?_; try simp only [Act.put, qq]
  refine qT 1 ?_; try simp only [Act.put, qq]
  refine qT 2 ?_; try simp only [Act.put, qq]
  refine qT 3 ?_; try simp only [Act.put, qq]
  refine wpAnyH_ready (rs := [4]) (by kernel_rfl) (by simp) ?_
  refine AllReadyH.cons rfl (fun K hK => ?_) AllReadyH.nil
  go_simp
  refine (CW.out _ (D.out.below bb1).ow.is).mono ?_
  rintro e1 w2 ⟨rfl, hb4⟩
  have bb2 : Below w1.heap.size w1 w2 := bb1.trans (hb4.mono bb1.size)
  clear hb4
  refine hK.out _ _ (HSS.out _ bb2) (fun hHeld => ?_)
  clear hK
  try simp only [Act.put, qq]
  refine qT 5 ?_; try simp only [Act.put, qq]
  refine wpAnyH_done (by kernel_rfl) ?_ _
  clear hHeld HSS
  replace D := Lib.hid (D.out.below bb2)
  replace HWS := Lib.hid (Nat.le_trans HWS.out bb2.size)
  clear bb1 bb2 CW
  go_upto_region 4 with (fail)
  have CV := Lib.hid (fun (w : World) (h : Below w2.heap.size w2 w) => voteat_any B x.votes.length d x.votes g s w ((do_votes D.out).below h) (SM.may_rises hm) (by omega))
  have hfm := SM.find_may hm g s
  obtain ⟨o, ho⟩ : ∃ o, o = SM.find x.votes g s := ⟨_, rfl⟩
  rw [← ho] at CV hfm
  try rw [← ho] at HE
  clear ho
  have bb1 : Below w2.heap.size w2 w2.drew := (Below.refl _ _).drew
  have HSS := Lib.hid (show ∀ w', Below w2.heap.size w2 w' → ((w'.cell? ⟨g0, 0, none⟩ = some (.slice A x.logs.length c) ∧ w'.cell? ⟨g0, 1, none⟩ = some (.slice B x.votes.length d)) ∧ (w'.cell? ⟨h, 0, none⟩ = some (.int .u8 3) ∧ w'.cell? ⟨h, 1, none⟩ = some (.int .i64 g) ∧ w'.cell? ⟨h, 2, none⟩ = some (.int .i64 s) ∧ w'.cell? ⟨h, 3, none⟩ = some (.int .i64 b) ∧ w'.cell? ⟨h, 4, none⟩ = some (.string t))) from fun w' hq => ⟨⟨(D.out.below hq).bs.cell 0, (D.out.below hq).bs.cell 1⟩, sn_five (D.out.below hq).br⟩)
  go_cut [6, 7] (fun u6 u7 wx => VMid w2 o u6 u7 wx)
  case first =>
    obtain ⟨⟨_, _⟩, ⟨_, _, _, _, _⟩⟩ := HSS.out w2 (Below.refl _ _)
    go_region_held3 (fun w' => ((w'.cell? ⟨g0, 0, none⟩ = some (.slice A x.logs.length c) ∧ w'.cell? ⟨g0, 1, none⟩ = some (.slice B x.votes.length d)) ∧ (w'.cell? ⟨h, 0, none⟩ = some (.int .u8 3) ∧ w'.cell? ⟨h, 1, none⟩ = some (.int .i64 g) ∧ w'.cell? ⟨h, 2, none⟩ = some (.int .i64 s) ∧ w'.cell? ⟨h, 3, none⟩ = some (.int .i64 b) ∧ w'.cell? ⟨h, 4, none⟩ = some (.string t))))
      (first | exact HSS.out _ bb2 | exact HSS.out _ (bb2.alloc bb2.size _) | exact HSS.out _ (((bb2.setCell (p := ⟨_, 0, none⟩) (Nat.le_refl _) _).setCell (p := ⟨_, 1, none⟩) (Nat.le_refl _) _).setCell (p := ⟨_, 2, none⟩) (Nat.le_refl _) _) | exact HSS.out _ bb1 | exact HSS.out _ (((Below.refl _ _).alloc (Nat.le_refl _) _).drew) | go_keep)
      (first
        | (go_at_call 45; ((first | with_reducible refine (CV.out _ bb1).mono ?_ | with_reducible refine (CV.out _ (((Below.refl _ _).alloc (Nat.le_refl _) _).drew)).mono ?_); rintro e wa ⟨rfl, ha⟩; (first | (have hq := vf_2 (o := o) ha; have bb2 := hq.1; obtain ⟨q0, q1, q2, q3, q4, q5⟩ := hq.2.1.three; have mid := Lib.hid hq.2.2; clear hq) | (have hq := vf_1 (o := o) ha; have bb2 := hq.1; have mid := Lib.hid hq.2; clear hq)); clear ha)))
    all_goals (go_wp2_with fail; go_meet; case rel => exact mid.out)
  case rest =>
    obtain ⟨gv, rfl, rfl, hgv, hV, hB⟩ := hcut
    replace D := Lib.hid (D.out.below hB)
    have V := Lib.hid hV
    have hgv2 : W.heap.size ≤ gv := Nat.le_trans HWS.out hgv
    clear HSS CV bb1 hV hB
    obtain ⟨l, hl⟩ : ∃ l, x.logs[gi]? = some l := ⟨_, List.getElem?_eq_getElem hgl⟩
    have hl200 := (SM.may_logs hm).1 l (List.mem_of_getElem? hl)
    obtain ⟨_, hol⟩ := do_logs D.out
    obtain ⟨bq, hA, _, _⟩ := own_some hol (show 0 < x.logs.length by omega)
    clear hol
    subst hA
    have HL := Lib.hid hl
    clear hl hfm
    obtain ⟨r0, r1, r2, r3, r4⟩ := sn_five D.out.br
    obtain ⟨v0, v1, v2, u0, u1, u2⟩ := V.out.three
    have D2 := Lib.hid (((D.out.setv V.out hgv2 (i := 0) (.int .i64 0)).setv (V.out.stored 0 (.int .i64 0)) hgv2 (i := 1) (.int .i64 0)).setv ((V.out.stored 0 (.int .i64 0)).stored 1 (.int .i64 0)) hgv2 (i := 2) (.string ⟨#[]⟩))
    have V2 := Lib.hid (V.out.put3 (.int .i64 0) (.int .i64 0) (.string ⟨#[]⟩))
    clear D V
    go_upto_region 12 with (fail)
    clear r0 r1 r2 r3 r4 v0 v1 v2 u0 u1 u2
    generalize ((wc.setCell ⟨gv, 0, none⟩ (.int .i64 0)).setCell ⟨gv, 1, none⟩ (.int .i64 0)).setCell ⟨gv, 2, none⟩ (.string ⟨#[]⟩) = w4 at D2 V2 ⊢
    have D := Lib.hid D2.out
    have V := Lib.hid V2.out
    clear D2 V2
    obtain ⟨i2, hl2, hx0, hx1, hx2⟩ := info_parts info_str
    have mixed : Try.prog.follows Departure.mixedOrders = true := by kernel_rfl
    have htn : g.toNat = gi := by have := HGD.out; omega
    have HSS := Lib.hid (fun (w' : World) (hx : Box w' g0 25 #[.slice (some ⟨bq, 0, none⟩) x.logs.length c, .slice B x.votes.length d]) (hy : Box w' h 29 #[.int .u8 3, .int .i64 g, .int .i64 s, .int .i64 b, .string t]) => (⟨hx.cell 0, sn_five hy⟩ : (w'.cell? ⟨g0, 0, none⟩ = some (.slice (some ⟨bq, 0, none⟩) x.logs.length c) ∧ (w'.cell? ⟨h, 0, none⟩ = some (.int .u8 3) ∧ w'.cell? ⟨h, 1, none⟩ = some (.int .i64 g) ∧ w'.cell? ⟨h, 2, none⟩ = some (.int .i64 s) ∧ w'.cell? ⟨h, 3, none⟩ = some (.int .i64 b) ∧ w'.cell? ⟨h, 4, none⟩ = some (.string t)))))
    have hd : Below w4.heap.size w4 w4.drew := (Below.refl _ _).drew
    obtain ⟨ud, hud⟩ : ∃ ud, ud = w4.drew := ⟨_, rfl⟩
    rw [← hud] at hd
    replace D := Lib.hid (D.out.below hd)
    replace V := Lib.hid (V.out.below hd V.out.lt)
    clear hd
    refine wp_region_held_drew (S := fun w' => (w'.cell? ⟨g0, 0, none⟩ = some (.slice (some ⟨bq, 0, none⟩) x.logs.length c) ∧ (w'.cell? ⟨h, 0, none⟩ = some (.int .u8 3) ∧ w'.cell? ⟨h, 1, none⟩ = some (.int .i64 g) ∧ w'.cell? ⟨h, 2, none⟩ = some (.int .i64 s) ∧ w'.cell? ⟨h, 3, none⟩ = some (.int .i64 b) ∧ w'.cell? ⟨h, 4, none⟩ = some (.string t)))) (by kernel_rfl) (by rw [← hud]; exact HSS.out _ D.out.bs D.out.br) (fun hHeld => ?_)
    rw [← hud] at hHeld ⊢
    clear hud
    refine qT 0 ?_; try simp only [Act.put, qq]
    refine qT 1 ?_; try simp only [Act.put, qq]
    refine qT 2 ?_; try simp only [Act.put, qq]
    refine qT 3 ?_; try simp only [Act.put, qq]
    refine qT 4 ?_; try simp only [Act.put, qq]
    refine qT 5 ?_; try simp only [Act.put, qq]
    refine qT 6 ?_; try simp only [Act.put, qq]
    refine qT 7 ?_; try simp only [Act.put, qq]
    refine qT 8 ?_; try simp only [Act.put, qq]
    refine qT 9 ?_; try simp only [Act.put, qq]
    refine qT 10 ?_; try simp only [Act.put, qq]
    refine qT 11 ?_; try simp only [Act.put, qq]
    refine qT 12 ?_; try simp only [Act.put, qq]
    refine qT 14 ?_; try simp only [Act.put, qq]
    refine qT 15 ?_; try simp only [Act.put, qq]
    refine wpAnyH_ready (rs := [13, 16]) (by kernel_rfl) (by simp) ?_
    refine AllReadyH.cons rfl (fun K hK => ?_) (AllReadyH.cons rfl (fun K hK => ?_) AllReadyH.nil)
    · skip
      obtain ⟨C, e9, c9, hx9⟩ := D.out.row HL.out
      clear hx9
      go_simp
      refine hK.out _ _ (HSS.out _ D.out.bs D.out.br) (fun hHeld => ?_)
      clear hK
      have HC9 := Lib.hid c9
      clear c9
      try simp only [Act.put, qq]
      refine wpAnyH_ready (rs := [16]) (by kernel_rfl) (by simp) ?_
      refine AllReadyH.cons rfl (fun K hK => ?_) AllReadyH.nil
      go_simp
      have hba : Below ud.heap.size ud (ud.alloc (.cells #[.string t] 9)) := (Below.refl _ _).alloc (Nat.le_refl _) _
      have N := Lib.hid (rdG_box (s := 1) (n := 1) (xs := [.string t]) (Box.new ud 9 #[.string t]) rfl rfl)
      replace HC9 := Lib.hid ((hba.cell (cell_blk HC9.out)).trans HC9.out)
      replace D := Lib.hid (D.out.below hba)
      replace V := Lib.hid (V.out.below hba V.out.lt)
      clear hba
      refine hK.out _ _ (HSS.out _ D.out.bs D.out.br) (fun hHeld => ?_)
      clear hK
      try simp only [Act.put, qq]
      generalize ud.alloc (.cells #[.string t] 9) = ue1 at D V N hHeld HC9 ⊢
      generalize ud.heap.size = gn at N ⊢
      refine wpAnyH_ready (rs := [17]) (by kernel_rfl) (by simp) ?_
      refine AllReadyH.cons rfl (fun K hK => ?_) AllReadyH.nil
      obtain ⟨C', e', c9, ou⟩ := D.out.row HL.out
      rw [HC9.out] at c9
      injection c9 with c9
      rw [← c9] at ou
      refine step_append_h rfl (.tmp 63) (.tmp 66) 32 rfl base 9 i2 _ 1 16 Try.underlying32 hl2 hx0 hx1 hx2 rfl (by omega) (.slice C l.length e9) l.length (tc l) (by simp [Act.eval, Act.put]) ou (some ⟨gn, 0, none⟩) 1 1 _ (by simp [Act.eval, Act.put]) N.out (by intro x hx; simp at hx; subst hx; rfl) (by unfold maxLen; omega) (by omega) (Nat.le_trans D.out.hb D.out.kp.size) ?_
      intro v9 w12 o9 g9 hob
      obtain ⟨C9, e10, rfl, _, _⟩ := own_form o9
      have HQ := Lib.hid (D.out.grew HL.out HC9.out o9 g9 hob)
      clear o9 g9 hob ou c9 N
      refine hK.out _ _ (HSS.out _ (HQ.out.2.2.2 _ _ _ (by decide) (by decide) D.out.bs).1 (HQ.out.2.2.2 _ _ _ (by decide) (by decide) D.out.br).1) (fun hHeld => ?_)
      clear hK
      try simp only [Act.put, qq]
      refine qT 18 ?_; try simp only [Act.put, qq]
      refine wpAnyH_ready (rs := [19]) (by kernel_rfl) (by simp) ?_
      refine AllReadyH.cons rfl (fun K hK => ?_) AllReadyH.nil
      obtain ⟨⟨cv, hcv⟩, fq, _, _⟩ := HQ.out
      go_simp
      refine hK.out _ _ (HSS.out _ (HQ.out.2.2.2 _ _ _ (by decide) (by decide) D.out.bs).2 (HQ.out.2.2.2 _ _ _ (by decide) (by decide) D.out.br).2) (fun hHeld => ?_)
      clear hK fq hcv
      try simp only [Act.put, qq]
      refine wpAnyH_done (by kernel_rfl) ?_ _
      clear hHeld HSS
      have D3 := Lib.hid HQ.out.2.2.1
      have V3 := Lib.hid (HQ.out.2.2.2 _ _ _ (by decide) (by decide) V.out).2
      clear D V HQ HC9
      have D := Lib.hid D3.out
      have V := Lib.hid V3.out
      clear D3 V3
      generalize w12.setCell ⟨bq, gi, none⟩ (.slice C9 (l.length + 1) e10) = w13 at D V ⊢
      have HXO := Lib.hid (show (⟨g, s, ⟨0, 0, ⟨#[]⟩⟩⟩ : Sn).o = SM.vz ∨ (⟨g, s, ⟨0, 0, ⟨#[]⟩⟩⟩ : Sn).o.p ≠ 0 from .inl rfl)
      have HRI := Lib.hid (SM.may_rises hm)
      go_upto_region 15 with (fail)
      have HSS := Lib.hid (fun (w' : World) (hx : Box w' h 29 #[.int .u8 3, .int .i64 g, .int .i64 s, .int .i64 b, .string t]) (hy : Box w' gv 48 #[.int .i64 0, .int .i64 0, .string ⟨#[]⟩]) => (⟨sn_five hx, ⟨hy.cell 0, hy.cell 1, hy.cell 2⟩⟩ : ((w'.cell? ⟨h, 0, none⟩ = some (.int .u8 3) ∧ w'.cell? ⟨h, 1, none⟩ = some (.int .i64 g) ∧ w'.cell? ⟨h, 2, none⟩ = some (.int .i64 s) ∧ w'.cell? ⟨h, 3, none⟩ = some (.int .i64 b) ∧ w'.cell? ⟨h, 4, none⟩ = some (.string t)) ∧ (w'.cell? ⟨gv, 0, none⟩ = some (.int .i64 0) ∧ w'.cell? ⟨gv, 1, none⟩ = some (.int .i64 0) ∧ w'.cell? ⟨gv, 2, none⟩ = some (.string ⟨#[]⟩)))))
      have hd : Below w13.heap.size w13 w13.drew := (Below.refl _ _).drew
      obtain ⟨ud, hud⟩ : ∃ ud, ud = w13.drew := ⟨_, rfl⟩
      rw [← hud] at hd
      replace D := Lib.hid (D.out.below hd)
      replace V := Lib.hid (V.out.below hd V.out.lt)
      have CP := Lib.hid (put_any base x.votes.length d B x.votes (⟨g, s, ⟨0, 0, ⟨#[]⟩⟩⟩ : Sn) ud (Nat.le_trans D.out.hb D.out.kp.size) (do_own (x := ⟨x.logs.set gi (l ++ [t]), x.votes⟩) D.out) rfl HRI.out (by omega) HXO.out)
      clear hd
      refine wp_region_held_drew (S := fun w' => ((w'.cell? ⟨h, 0, none⟩ = some (.int .u8 3) ∧ w'.cell? ⟨h, 1, none⟩ = some (.int .i64 g) ∧ w'.cell? ⟨h, 2, none⟩ = some (.int .i64 s) ∧ w'.cell? ⟨h, 3, none⟩ = some (.int .i64 b) ∧ w'.cell? ⟨h, 4, none⟩ = some (.string t)) ∧ (w'.cell? ⟨gv, 0, none⟩ = some (.int .i64 0) ∧ w'.cell? ⟨gv, 1, none⟩ = some (.int .i64 0) ∧ w'.cell? ⟨gv, 2, none⟩ = some (.string ⟨#[]⟩)))) (by kernel_rfl) (by rw [← hud]; exact HSS.out _ D.out.br V.out) (fun hHeld => ?_)
      rw [← hud] at hHeld ⊢
      clear hud
      refine qT 0 ?_; try simp only [Act.put, qq]
      refine qT 1 ?_; try simp only [Act.put, qq]
      refine qT 2 ?_; try simp only [Act.put, qq]
      refine qT 3 ?_; try simp only [Act.put, qq]
      refine qT 5 ?_; try simp only [Act.put, qq]
      refine qT 6 ?_; try simp only [Act.put, qq]
      refine qT 7 ?_; try simp only [Act.put, qq]
      refine qT 8 ?_; try simp only [Act.put, qq]
      refine qT 9 ?_; try simp only [Act.put, qq]
      refine qT 10 ?_; try simp only [Act.put, qq]
      refine wpAnyH_ready (rs := [4]) (by kernel_rfl) (by simp) ?_
      refine AllReadyH.cons rfl (fun K hK => ?_) AllReadyH.nil
      obtain ⟨s0, s1, f0, f1⟩ := D.out.bs.two
      go_simp
      refine hK.out _ _ (HSS.out _ D.out.br V.out) (fun hHeld => ?_)
      clear hK s0 s1 f0 f1
      try simp only [Act.put, qq]
      refine wpAnyH_ready (rs := [11]) (by kernel_rfl) (by simp) ?_
      refine AllReadyH.cons rfl (fun K hK => ?_) AllReadyH.nil
      go_simp
      refine (CP.out).mono ?_
      rintro e1 w9 ⟨F, f, rfl, ho9, hg9⟩
      have HQ := Lib.hid (DoR.put (x := ⟨x.logs.set gi (l ++ [t]), x.votes⟩) D.out (Nat.le_trans D.out.hb D.out.hh) ho9 hg9)
      clear ho9 hg9 CP
      refine hK.out _ _ (HSS.out _ (HQ.out.2.2.2.2 _ _ _ (by decide) (by decide) D.out.br).1 (HQ.out.2.2.2.2 _ _ _ (by decide) (by decide) V.out).1) (fun hHeld => ?_)
      clear hK
      try simp only [Act.put, qq]
      refine qT 12 ?_; try simp only [Act.put, qq]
      refine qT 13 ?_; try simp only [Act.put, qq]
      refine wpAnyH_ready (rs := [14]) (by kernel_rfl) (by simp) ?_
      refine AllReadyH.cons rfl (fun K hK => ?_) AllReadyH.nil
      obtain ⟨s0, s1, f0, f1⟩ := HQ.out.1.two
      go_simp
      refine hK.out _ _ (HSS.out _ (HQ.out.2.2.2.2 _ _ _ (by decide) (by decide) D.out.br).2 (HQ.out.2.2.2.2 _ _ _ (by decide) (by decide) V.out).2) (fun hHeld => ?_)
      clear hK s0 s1 f0 f1
      try simp only [Act.put, qq]
      refine wpAnyH_done (by kernel_rfl) ?_ _
      clear hHeld HSS
      go_wp2_with fail
      go_ret
      have hE := HE.out
      rw [htn, modify_set HL.out] at hE
      have hb0 := HB0.out
      subst hb0
      exact ⟨by rw [hE]; rfl, HQ.out.2.1, fun _ => ⟨_, _, HQ.out.2.2.1, by rw [hE]; exact HQ.out.2.2.2.1⟩⟩
    · skip
      go_simp
      have hba : Below ud.heap.size ud (ud.alloc (.cells #[.string t] 9)) := (Below.refl _ _).alloc (Nat.le_refl _) _
      have N := Lib.hid (rdG_box (s := 1) (n := 1) (xs := [.string t]) (Box.new ud 9 #[.string t]) rfl rfl)
      skip
      replace D := Lib.hid (D.out.below hba)
      replace V := Lib.hid (V.out.below hba V.out.lt)
      clear hba
      refine hK.out _ _ (HSS.out _ D.out.bs D.out.br) (fun hHeld => ?_)
      clear hK
      try simp only [Act.put, qq]
      generalize ud.alloc (.cells #[.string t] 9) = ue2 at D V N hHeld ⊢
      generalize ud.heap.size = gn at N ⊢
      refine wpAnyH_ready (rs := [13]) (by kernel_rfl) (by simp) ?_
      refine AllReadyH.cons rfl (fun K hK => ?_) AllReadyH.nil
      obtain ⟨C, e9, c9, hx9⟩ := D.out.row HL.out
      clear hx9
      go_simp
      refine hK.out _ _ (HSS.out _ D.out.bs D.out.br) (fun hHeld => ?_)
      clear hK
      have HC9 := Lib.hid c9
      clear c9
      try simp only [Act.put, qq]
      refine wpAnyH_ready (rs := [17]) (by kernel_rfl) (by simp) ?_
      refine AllReadyH.cons rfl (fun K hK => ?_) AllReadyH.nil
      obtain ⟨C', e', c9, ou⟩ := D.out.row HL.out
      rw [HC9.out] at c9
      injection c9 with c9
      rw [← c9] at ou
      refine step_append_h rfl (.tmp 63) (.tmp 66) 32 rfl base 9 i2 _ 1 16 Try.underlying32 hl2 hx0 hx1 hx2 rfl (by omega) (.slice C l.length e9) l.length (tc l) (by simp [Act.eval, Act.put]) ou (some ⟨gn, 0, none⟩) 1 1 _ (by simp [Act.eval, Act.put]) N.out (by intro x hx; simp at hx; subst hx; rfl) (by unfold maxLen; omega) (by omega) (Nat.le_trans D.out.hb D.out.kp.size) ?_
      intro v9 w12 o9 g9 hob
      obtain ⟨C9, e10, rfl, _, _⟩ := own_form o9
      have HQ := Lib.hid (D.out.grew HL.out HC9.out o9 g9 hob)
      clear o9 g9 hob ou c9 N
      refine hK.out _ _ (HSS.out _ (HQ.out.2.2.2 _ _ _ (by decide) (by decide) D.out.bs).1 (HQ.out.2.2.2 _ _ _ (by decide) (by decide) D.out.br).1) (fun hHeld => ?_)
      clear hK
      try simp only [Act.put, qq]
      refine qT 18 ?_; try simp only [Act.put, qq]
      refine wpAnyH_ready (rs := [19]) (by kernel_rfl) (by simp) ?_
      refine AllReadyH.cons rfl (fun K hK => ?_) AllReadyH.nil
      obtain ⟨⟨cv, hcv⟩, fq, _, _⟩ := HQ.out
      go_simp
      refine hK.out _ _ (HSS.out _ (HQ.out.2.2.2 _ _ _ (by decide) (by decide) D.out.bs).2 (HQ.out.2.2.2 _ _ _ (by decide) (by decide) D.out.br).2) (fun hHeld => ?_)
      clear hK fq hcv
      try simp only [Act.put, qq]
      refine wpAnyH_done (by kernel_rfl) ?_ _
      clear hHeld HSS
      have D3 := Lib.hid HQ.out.2.2.1
      have V3 := Lib.hid (HQ.out.2.2.2 _ _ _ (by decide) (by decide) V.out).2
      clear D V HQ HC9
      have D := Lib.hid D3.out
      have V := Lib.hid V3.out
      clear D3 V3
      generalize w12.setCell ⟨bq, gi, none⟩ (.slice C9 (l.length + 1) e10) = w13 at D V ⊢
      have HXO := Lib.hid (show (⟨g, s, ⟨0, 0, ⟨#[]⟩⟩⟩ : Sn).o = SM.vz ∨ (⟨g, s, ⟨0, 0, ⟨#[]⟩⟩⟩ : Sn).o.p ≠ 0 from .inl rfl)
      have HRI := Lib.hid (SM.may_rises hm)
      go_upto_region 15 with (fail)
      have HSS := Lib.hid (fun (w' : World) (hx : Box w' h 29 #[.int .u8 3, .int .i64 g, .int .i64 s, .int .i64 b, .string t]) (hy : Box w' gv 48 #[.int .i64 0, .int .i64 0, .string ⟨#[]⟩]) => (⟨sn_five hx, ⟨hy.cell 0, hy.cell 1, hy.cell 2⟩⟩ : ((w'.cell? ⟨h, 0, none⟩ = some (.int .u8 3) ∧ w'.cell? ⟨h, 1, none⟩ = some (.int .i64 g) ∧ w'.cell? ⟨h, 2, none⟩ = some (.int .i64 s) ∧ w'.cell? ⟨h, 3, none⟩ = some (.int .i64 b) ∧ w'.cell? ⟨h, 4, none⟩ = some (.string t)) ∧ (w'.cell? ⟨gv, 0, none⟩ = some (.int .i64 0) ∧ w'.cell? ⟨gv, 1, none⟩ = some (.int .i64 0) ∧ w'.cell? ⟨gv, 2, none⟩ = some (.string ⟨#[]⟩)))))
      have hd : Below w13.heap.size w13 w13.drew := (Below.refl _ _).drew
      obtain ⟨ud, hud⟩ : ∃ ud, ud = w13.drew := ⟨_, rfl⟩
      rw [← hud] at hd
      replace D := Lib.hid (D.out.below hd)
      replace V := Lib.hid (V.out.below hd V.out.lt)
      have CP := Lib.hid (put_any base x.votes.length d B x.votes (⟨g, s, ⟨0, 0, ⟨#[]⟩⟩⟩ : Sn) ud (Nat.le_trans D.out.hb D.out.kp.size) (do_own (x := ⟨x.logs.set gi (l ++ [t]), x.votes⟩) D.out) rfl HRI.out (by omega) HXO.out)
      clear hd
      refine wp_region_held_drew (S := fun w' => ((w'.cell? ⟨h, 0, none⟩ = some (.int .u8 3) ∧ w'.cell? ⟨h, 1, none⟩ = some (.int .i64 g) ∧ w'.cell? ⟨h, 2, none⟩ = some (.int .i64 s) ∧ w'.cell? ⟨h, 3, none⟩ = some (.int .i64 b) ∧ w'.cell? ⟨h, 4, none⟩ = some (.string t)) ∧ (w'.cell? ⟨gv, 0, none⟩ = some (.int .i64 0) ∧ w'.cell? ⟨gv, 1, none⟩ = some (.int .i64 0) ∧ w'.cell? ⟨gv, 2, none⟩ = some (.string ⟨#[]⟩)))) (by kernel_rfl) (by rw [← hud]; exact HSS.out _ D.out.br V.out) (fun hHeld => ?_)
      rw [← hud] at hHeld ⊢
      clear hud
      refine qT 0 ?_; try simp only [Act.put, qq]
      refine qT 1 ?_; try simp only [Act.put, qq]
      refine qT 2 ?_; try simp only [Act.put, qq]
      refine qT 3 ?_; try simp only [Act.put, qq]
      refine qT 5 ?_; try simp only [Act.put, qq]
      refine qT 6 ?_; try simp only [Act.put, qq]
      refine qT 7 ?_; try simp only [Act.put, qq]
      refine qT 8 ?_; try simp only [Act.put, qq]
      refine qT 9 ?_; try simp only [Act.put, qq]
      refine qT 10 ?_; try simp only [Act.put, qq]
      refine wpAnyH_ready (rs := [4]) (by kernel_rfl) (by simp) ?_
      refine AllReadyH.cons rfl (fun K hK => ?_) AllReadyH.nil
      obtain ⟨s0, s1, f0, f1⟩ := D.out.bs.two
      go_simp
      refine hK.out _ _ (HSS.out _ D.out.br V.out) (fun hHeld => ?_)
      clear hK s0 s1 f0 f1
      try simp only [Act.put, qq]
      refine wpAnyH_ready (rs := [11]) (by kernel_rfl) (by simp) ?_
      refine AllReadyH.cons rfl (fun K hK => ?_) AllReadyH.nil
      go_simp
      refine (CP.out).mono ?_
      rintro e1 w9 ⟨F, f, rfl, ho9, hg9⟩
      have HQ := Lib.hid (DoR.put (x := ⟨x.logs.set gi (l ++ [t]), x.votes⟩) D.out (Nat.le_trans D.out.hb D.out.hh) ho9 hg9)
      clear ho9 hg9 CP
      refine hK.out _ _ (HSS.out _ (HQ.out.2.2.2.2 _ _ _ (by decide) (by decide) D.out.br).1 (HQ.out.2.2.2.2 _ _ _ (by decide) (by decide) V.out).1) (fun hHeld => ?_)
      clear hK
      try simp only [Act.put, qq]
      refine qT 12 ?_; try simp only [Act.put, qq]
      refine qT 13 ?_; try simp only [Act.put, qq]
      refine wpAnyH_ready (rs := [14]) (by kernel_rfl) (by simp) ?_
      refine AllReadyH.cons rfl (fun K hK => ?_) AllReadyH.nil
      obtain ⟨s0, s1, f0, f1⟩ := HQ.out.1.two
      go_simp
      refine hK.out _ _ (HSS.out _ (HQ.out.2.2.2.2 _ _ _ (by decide) (by decide) D.out.br).2 (HQ.out.2.2.2.2 _ _ _ (by decide) (by decide) V.out).2) (fun hHeld => ?_)
      clear hK s0 s1 f0 f1
      try simp only [Act.put, qq]
      refine wpAnyH_done (by kernel_rfl) ?_ _
      clear hHeld HSS
      go_wp2_with fail
      go_ret
      have hE := HE.out
      rw [htn, modify_set HL.out] at hE
      have hb0 := HB0.out
      subst hb0
      exact ⟨by rw [hE]; rfl, HQ.out.2.1, fun _ => ⟨_, _, HQ.out.2.2.1, by rw [hE]; exact HQ.out.2.2.2.1⟩⟩
end Go.Proofs.Ytohiemdodffhoaa.SP
