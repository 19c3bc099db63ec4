/-
  Twelve cells of a block stored, one behind the other. No walk, no program.
  The laws' own message, assign, final (towncrierlaw15). Conditions: none.
  The laws' examples (towncrierlaw15) reckoned: what lies behind some commands. No walk.
-/
import Derived.Test.YtnpgjcapekopnaaK01
namespace Go.Proofs.Ytnpgjcapekopnaa.CP
open Go.RowKit
open CM (Mg Cm)
set_option linter.unusedVariables false
set_option linter.unusedSimpArgs false

/-- twelve cells stored -/
def put12 (w : World) (g : Nat) (a0 a1 a2 a3 a4 a5 a6 a7 a8 a9 a10 a11 : Value) : World := ((((((((((((w.setCell ⟨g, 0, none⟩ a0).setCell ⟨g, 1, none⟩ a1).setCell ⟨g, 2, none⟩ a2).setCell ⟨g, 3, none⟩ a3).setCell ⟨g, 4, none⟩ a4).setCell ⟨g, 5, none⟩ a5).setCell ⟨g, 6, none⟩ a6).setCell ⟨g, 7, none⟩ a7).setCell ⟨g, 8, none⟩ a8).setCell ⟨g, 9, none⟩ a9).setCell ⟨g, 10, none⟩ a10).setCell ⟨g, 11, none⟩ a11)
theorem put12_box {w : World} {g : Nat} {t : TypeId} {b0 b1 b2 b3 b4 b5 b6 b7 b8 b9 b10 b11 : Value} (h : Box w g t #[b0, b1, b2, b3, b4, b5, b6, b7, b8, b9, b10, b11]) (a0 a1 a2 a3 a4 a5 a6 a7 a8 a9 a10 a11 : Value) : Box (put12 w g a0 a1 a2 a3 a4 a5 a6 a7 a8 a9 a10 a11) g t #[a0, a1, a2, a3, a4, a5, a6, a7, a8, a9, a10, a11] := by
  have := (((((((((((h.stored 0 a0).stored 1 a1).stored 2 a2).stored 3 a3).stored 4 a4).stored 5 a5).stored 6 a6).stored 7 a7).stored 8 a8).stored 9 a9).stored 10 a10).stored 11 a11
  simpa [put12] using this
theorem put12_below {B g : Nat} {u w : World} (h : Below B u w) (hg : B ≤ g) (a0 a1 a2 a3 a4 a5 a6 a7 a8 a9 a10 a11 : Value) : Below B u (put12 w g a0 a1 a2 a3 a4 a5 a6 a7 a8 a9 a10 a11) :=
  (((((((((((h.setCell (p := ⟨g, 0, none⟩) hg a0).setCell (p := ⟨g, 1, none⟩) hg a1).setCell (p := ⟨g, 2, none⟩) hg a2).setCell (p := ⟨g, 3, none⟩) hg a3).setCell (p := ⟨g, 4, none⟩) hg a4).setCell (p := ⟨g, 5, none⟩) hg a5).setCell (p := ⟨g, 6, none⟩) hg a6).setCell (p := ⟨g, 7, none⟩) hg a7).setCell (p := ⟨g, 8, none⟩) hg a8).setCell (p := ⟨g, 9, none⟩) hg a9).setCell (p := ⟨g, 10, none⟩) hg a10).setCell (p := ⟨g, 11, none⟩) hg a11
theorem put12_own {w : World} {base g s n : Nat} {e : TypeId} {v : Value} {xs : List Value} (h : w.ownsRow base e s v n xs) (hg : g < base) (a0 a1 a2 a3 a4 a5 a6 a7 a8 a9 a10 a11 : Value) : (put12 w g a0 a1 a2 a3 a4 a5 a6 a7 a8 a9 a10 a11).ownsRow base e s v n xs := by
  unfold put12
  repeat (refine ownsRow_setCell_below ?_ hg _)
  exact h
end Go.Proofs.Ytnpgjcapekopnaa.CP

namespace Go.Proofs.Ytnpgjcapekopnaa.KP
open Go.RowKit CP TP
open CM (Mg Cm)
open TM (Sp)
open KM (Wt Sk)
set_option linter.unusedVariables false
set_option linter.unusedSimpArgs false
set_option maxRecDepth 100000

/-- the chapter's message, and what assigns it; what makes one final -/
def msg (id : Int) : Mg := ⟨id, [0], 0, ⟨#[]⟩, ⟨#[]⟩⟩
def asgC (id : Int) : Cm := ⟨1, msg id, 0, 0, [], 0, 0, 0⟩
def finC (id tm : Int) : Cm := ⟨2, CM.mz, id, tm, [], 0, 0, 0⟩
theorem rowGe_lit (w : World) (b : Nat) (xs : Array Value) (l : List Int) (n : Nat) (hx : xs = (ic l).toArray) (hn : l.length = n) (hm : n ≤ 4096) (hb : b ≤ w.heap.size) : RowGe (w.alloc (.cells xs 3)) b (some ⟨w.heap.size, 0, none⟩) n l := by
  subst hx
  subst hn
  have h := rd_row w (ic l) 3
  rw [ic_length] at h
  refine ⟨⟨h, Nat.le_refl _, by unfold maxLen; omega⟩, fun ad e _ => by injection e with e; rw [← e]; exact hb, fun _ => ⟨w.heap.size, _, rfl, hb, Box.new _ _ _, by simp [ic_length]⟩⟩
set_option maxHeartbeats 2000000 in
theorem message15_any (id : Int) (w : World) : Calls Try.prog 21 #[.int .i64 id] w (TmIs (msg id) w) := by
  have H1 := Lib.hid (show Below w.heap.size w ((w.alloc (.cells #[.int .i64 id, .slice (some ⟨w.heap.size + 1, 0, none⟩) 1 1, .int .i64 0, .string ⟨#[]⟩, .string ⟨#[]⟩] 31)).alloc (.cells #[.int .i64 0] 3)) from (((Below.refl _ _).alloc (Nat.le_refl _) _).alloc (by simp) _))
  have H2 := Lib.hid (show Box ((w.alloc (.cells #[.int .i64 id, .slice (some ⟨w.heap.size + 1, 0, none⟩) 1 1, .int .i64 0, .string ⟨#[]⟩, .string ⟨#[]⟩] 31)).alloc (.cells #[.int .i64 0] 3)) w.heap.size 31 #[.int .i64 id, .slice (some ⟨w.heap.size + 1, 0, none⟩) 1 1, .int .i64 0, .string ⟨#[]⟩, .string ⟨#[]⟩] from (Box.new _ _ _).alloc _)
  have H3 := Lib.hid (show RowGe ((w.alloc (.cells #[.int .i64 id, .slice (some ⟨w.heap.size + 1, 0, none⟩) 1 1, .int .i64 0, .string ⟨#[]⟩, .string ⟨#[]⟩] 31)).alloc (.cells #[.int .i64 0] 3)) w.heap.size (some ⟨w.heap.size + 1, 0, none⟩) 1 [0] by
    have := rowGe_lit (w.alloc (.cells #[.int .i64 id, .slice (some ⟨w.heap.size + 1, 0, none⟩) 1 1, .int .i64 0, .string ⟨#[]⟩, .string ⟨#[]⟩] 31)) w.heap.size #[.int .i64 0] [0] 1 rfl rfl (by omega) (by simp)
    rw [World.size_alloc] at this
    exact this)
  go_enter Try.func21, Try.ntmps21
  go_wp2_with fail
  obtain ⟨e0, e1, e2, e3, e4⟩ := box_mg H2.out
  exact bodyPost_ret (v := .agg #[.int .i64 id, .slice (some ⟨w.heap.size + 1, 0, none⟩) 1 1, .int .i64 0, .string ⟨#[]⟩, .string ⟨#[]⟩]) (by simp [results, Try.results21, go_sem, e0, e1, e2, e3, e4]; try rfl) rfl
    ⟨_, _, rfl, H3.out, H1.out⟩
/-- a command in new memory -/
def CnIs (x : Cm) (w : World) (e : Ending) (w' : World) : Prop := ∃ v, e = .returned v ∧ CmIs w' v x ∧ Below w.heap.size w w'
set_option maxHeartbeats 4000000 in
theorem assign15_any (id : Int) (w : World) : Calls Try.prog 7 #[.int .i64 id] w (CnIs (asgC id) w) := by
  have HB := Lib.hid (show Below w.heap.size w (w.alloc (.cells #[.int .u8 0, .int .i64 0, .slice none 0 0, .int .i64 0, .string ⟨#[]⟩, .string ⟨#[]⟩, .int .i64 0, .int .i64 0, .slice none 0 0, .int .i64 0, .int .i64 0, .int .i64 0] 33)) from (Below.refl _ _).alloc (Nat.le_refl _) _)
  have X := Lib.hid (Box.new w 33 #[.int .u8 0, .int .i64 0, .slice none 0 0, .int .i64 0, .string ⟨#[]⟩, .string ⟨#[]⟩, .int .i64 0, .int .i64 0, .slice none 0 0, .int .i64 0, .int .i64 0, .int .i64 0])
  have HS := Lib.hid (show w.heap.size < (w.alloc (.cells #[.int .u8 0, .int .i64 0, .slice none 0 0, .int .i64 0, .string ⟨#[]⟩, .string ⟨#[]⟩, .int .i64 0, .int .i64 0, .slice none 0 0, .int .i64 0, .int .i64 0, .int .i64 0] 33)).heap.size by simp)
  go_enter Try.func7, Try.ntmps7
  go_upto_region 1 with (fail)
  generalize w.alloc (.cells #[.int .u8 0, .int .i64 0, .slice none 0 0, .int .i64 0, .string ⟨#[]⟩, .string ⟨#[]⟩, .int .i64 0, .int .i64 0, .slice none 0 0, .int .i64 0, .int .i64 0, .int .i64 0] 33) = w1 at HB X HS ⊢
  obtain ⟨g, hg⟩ : ∃ g, w.heap.size = g := ⟨_, rfl⟩
  rw [hg] at X HS
  simp only [hg]
  have HG := Lib.hid hg
  clear hg
  go_wp2_with fail
  refine (message15_any id w1).mono ?_
  rintro e w2 ⟨A, c, rfl, hrow, hb⟩
  have HR := Lib.hid hrow
  have X2 := Lib.hid (X.out.below hb X.out.lt)
  have HB2 := Lib.hid (bmore HB.out hb (Nat.le_refl _))
  unfold mcells msg
  simp only [List.length_cons, List.length_nil]
  clear hrow hb
  obtain ⟨x0, x1, x2, x3, x4, x5, x6, x7, x8, x9, x10, x11⟩ := box_cm X2.out
  have z0 := X2.out.frozen 0
  have z1 := X2.out.frozen 1
  have z2 := X2.out.frozen 2
  have z3 := X2.out.frozen 3
  have z4 := X2.out.frozen 4
  have z5 := X2.out.frozen 5
  have z6 := X2.out.frozen 6
  have z7 := X2.out.frozen 7
  have z8 := X2.out.frozen 8
  have z9 := X2.out.frozen 9
  have z10 := X2.out.frozen 10
  have z11 := X2.out.frozen 11
  have HF := Lib.hid (And.intro (put12_below HB2.out (g := g) (by have := HG.out; omega) (.int .u8 1) (.int .i64 id) (.slice A 1 c) (.int .i64 0) (.string ⟨#[]⟩) (.string ⟨#[]⟩) (.int .i64 0) (.int .i64 0) (.slice none 0 0) (.int .i64 0) (.int .i64 0) (.int .i64 0))
    (And.intro (put12_box X2.out (.int .u8 1) (.int .i64 id) (.slice A 1 c) (.int .i64 0) (.string ⟨#[]⟩) (.string ⟨#[]⟩) (.int .i64 0) (.int .i64 0) (.slice none 0 0) (.int .i64 0) (.int .i64 0) (.int .i64 0)) (show RowIs (put12 w2 g (.int .u8 1) (.int .i64 id) (.slice A 1 c) (.int .i64 0) (.string ⟨#[]⟩) (.string ⟨#[]⟩) (.int .i64 0) (.int .i64 0) (.slice none 0 0) (.int .i64 0) (.int .i64 0) (.int .i64 0)) A c [0] by
      unfold put12
      have hgl := HS.out
      exact ((((((((((((HR.out.set hgl _).set hgl _).set hgl _).set hgl _).set hgl _).set hgl _).set hgl _).set hgl _).set hgl _).set hgl _).set hgl _).set hgl _).is)))
  go_wp2_with fail
  unfold put12 at HF
  obtain ⟨qb, qx, qr⟩ := HF.out
  obtain ⟨e0, e1, e2, e3, e4, e5, e6, e7, e8, e9, e10, e11⟩ := box_cm qx
  exact bodyPost_ret (v := .agg #[.int .u8 1, .int .i64 id, .slice A 1 c, .int .i64 0, .string ⟨#[]⟩, .string ⟨#[]⟩, .int .i64 0, .int .i64 0, .slice none 0 0, .int .i64 0, .int .i64 0, .int .i64 0]) (by simp [results, Try.results7, go_sem, e0, e1, e2, e3, e4, e5, e6, e7, e8, e9, e10, e11]; try rfl) rfl
    ⟨_, rfl, ⟨A, c, none, 0, rfl, qr, RowIs.none _⟩, qb⟩
set_option maxHeartbeats 2000000 in
theorem final15_any (id tm : Int) (w : World) : Calls Try.prog 8 #[.int .i64 id, .int .i64 tm] w (CnIs (finC id tm) w) := by
  have H1 := Lib.hid (show Below w.heap.size w (w.alloc (.cells #[.int .u8 2, .int .i64 0, .slice none 0 0, .int .i64 0, .string ⟨#[]⟩, .string ⟨#[]⟩, .int .i64 id, .int .i64 tm, .slice none 0 0, .int .i64 0, .int .i64 0, .int .i64 0] 33)) from (Below.refl _ _).alloc (Nat.le_refl _) _)
  have H2 := Lib.hid (Box.new w 33 #[.int .u8 2, .int .i64 0, .slice none 0 0, .int .i64 0, .string ⟨#[]⟩, .string ⟨#[]⟩, .int .i64 id, .int .i64 tm, .slice none 0 0, .int .i64 0, .int .i64 0, .int .i64 0])
  go_enter Try.func8, Try.ntmps8
  go_wp2_with fail
  obtain ⟨e0, e1, e2, e3, e4, e5, e6, e7, e8, e9, e10, e11⟩ := box_cm H2.out
  exact bodyPost_ret (v := .agg #[.int .u8 2, .int .i64 0, .slice none 0 0, .int .i64 0, .string ⟨#[]⟩, .string ⟨#[]⟩, .int .i64 id, .int .i64 tm, .slice none 0 0, .int .i64 0, .int .i64 0, .int .i64 0]) (by simp [results, Try.results8, go_sem, e0, e1, e2, e3, e4, e5, e6, e7, e8, e9, e10, e11]; try rfl) rfl
    ⟨_, rfl, ⟨none, 0, none, 0, rfl, RowIs.none _, RowIs.none _⟩, H1.out⟩
end Go.Proofs.Ytnpgjcapekopnaa.KP

namespace Go.Proofs.Ytnpgjcapekopnaa.KP
open CM (Mg Cm)
open TM (Sp)
open KM (Wt Sk)
set_option maxRecDepth 100000

/-- a clock behind one command more, what was delivered, whether none was refused -/
def step (r : Sk × List Mg × Bool) (c : Cm) : Sk × List Mg × Bool := ((KM.applyF r.1 0 c).1, r.2.1 ++ (KM.applyF r.1 0 c).2.1, r.2.2 && decide ((KM.applyF r.1 0 c).2.2 = 0))
def af (l : List Cm) : Sk × List Mg × Bool := l.foldl step (KM.zero, [], true)
theorem af_snoc (l : List Cm) (c : Cm) : af (l ++ [c]) = step (af l) c := by simp [af, List.foldl_append]
def asg1 (id : Int) : Cm := ⟨1, ⟨id, [1], 0, ⟨#[]⟩, ⟨#[]⟩⟩, 0, 0, [], 0, 0, 0⟩
theorem alive_run : af [asgC 5, asgC 9, finC 9 7, finC 5 3] = (⟨7, [], [⟨3, 5⟩, ⟨7, 9⟩]⟩, [msg 5, msg 9], true) := by decide +kernel
theorem names_run : af [asgC 5, asgC 9, finC 9 7] = (⟨7, [⟨msg 5, 1, false⟩, ⟨msg 9, 7, true⟩], []⟩, [], true) := by decide +kernel
theorem names_two : af [asgC 5, finC 5 3, asgC 5, finC 5 9, asg1 6, CM.zero] = (⟨3, [], [⟨3, 5⟩]⟩, [msg 5], true) := by decide +kernel
theorem names_l9 : KM.localF ⟨7, [⟨msg 5, 1, false⟩, ⟨msg 9, 7, true⟩], []⟩ 9 = (7, true, 0) := by decide +kernel
theorem names_l5 : KM.localF ⟨7, [⟨msg 5, 1, false⟩, ⟨msg 9, 7, true⟩], []⟩ 5 = (1, false, 0) := by decide +kernel
theorem names_g : KM.localF ⟨3, [], [⟨3, 5⟩]⟩ 5 = (0, false, 6) := by decide +kernel
theorem names_h : (KM.applyF ⟨7, [⟨msg 5, 1, false⟩, ⟨msg 9, 7, true⟩], []⟩ 4 CM.zero).2.2 = 2 := by decide +kernel
theorem names_i : (KM.applyF ⟨7, [⟨msg 5, 1, false⟩, ⟨msg 9, 7, true⟩], []⟩ 0 { CM.zero with k := 99 }).2.2 = 120 := by decide +kernel
theorem names_j : (KM.applyF ⟨1073741824, [], []⟩ 0 (asgC 5)).2.2 = 9 := by decide +kernel
theorem names_c : ¬ KM.may ⟨-1, [], []⟩ := by decide +kernel
end Go.Proofs.Ytnpgjcapekopnaa.KP
