/-
  AttemptBegins' walk: Begin and Best beside the document's own. Conditions: what the arguments are.
-/
import Derived.Test.YtmcfamoicdmkdaaAttAlive
import Derived.Test.YtmcfamoicdmkdaaAttRC
import Derived.Test.YtmcfamoicdmkdaaAttR
import Derived.Test.YtmcfamoicdmkdaaAttArg
namespace Go.Proofs.Ytmcfamoicdmkdaa
open Go.RowKit
set_option linter.unusedVariables false
set_option linter.unusedSimpArgs false

theorem begAt_fit {ms : List Int} {ba y : Int} {wi : ByteArray} (hl : ms.length ≤ 2000) (b1 : -9223372036854775808 ≤ ba) (b2 : ba ≤ 9223372036854775807) (hs : wi.size ≤ maxLen) : Fit (begAt ms ba wi y) := by
  unfold begAt
  split
  · exact ⟨by simp [AM.start], by simp [AM.start], b1, b2, hs, hl, by simp [AM.start], by simp [AM.start], fun q hq => by simp [AM.start] at hq⟩
  · exact fit_zero

set_option maxRecDepth 100000 in
set_option maxHeartbeats 8000000 in
theorem attemptBegins_walk (A : Option Addr) (n c : Nat) (zs : List Int) (ba : Int) (wi : ByteArray) (B : Option Addr) (m d : Nat) (ps : List AM.Pr) (w : World) (H : IsRow .i64 w A n c zs) (hba : (Lit.int .i64 ba).wf = true) (hwi : wi.size ≤ maxLen) (HP : PrsArg w B m d ps) :
    Calls Try.prog 5 #[.slice A n c, .int .i64 ba, .string wi, .slice B m d] w fun e w' => e = .returned (.bool true) ∧ Below w.heap.size w w' := by
  obtain ⟨i0, hi, hz0, hz1, hz2⟩ := info_parts info_ai
  have hcm := H.len_le
  have hn63 : n ≤ 9223372036854775807 := by have := hcm.2.1; unfold maxLen at this; omega
  have hm63 : m ≤ 9223372036854775807 := by have := HP.2.1; unfold maxLen at this; omega
  have hw63 : wi.size ≤ 9223372036854775807 := by have := hwi; unfold maxLen at this; omega
  obtain ⟨ms, hms⟩ : ∃ ms, ms = zs.take n := ⟨_, rfl⟩
  have hr := H.ints
  rw [← hms] at hr
  have hl : ms.length = n := by have := hr.1; rwa [ic_length] at this
  have hrp := HP.1
  obtain ⟨b1, b2⟩ := range_i64 hba
  have BB := Lib.hid (Below.refl w.heap.size w)
  clear H HP hcm hba hms
  by_cases k1 : 2000 < n
  ·
    have d1 : decide ((2000 : Int) < (n : Int)) = true := by simp; omega
    have d2 : decide (2000 < n) = true := by simp; omega
    go_enter Try.func5, Try.ntmps5
    go_wp2_with fail
    go_ret
    exact ⟨rfl, BB.out⟩
  have d1k1 : decide ((2000 : Int) < (n : Int)) = false := by simp; omega
  have d2k1 : decide (2000 < n) = false := by simp; omega
  by_cases k2 : 5000 < wi.size
  ·
    have d1 : decide ((5000 : Int) < (wi.size : Int)) = true := by simp; omega
    have d2 : decide (5000 < wi.size) = true := by simp; omega
    go_enter Try.func5, Try.ntmps5
    go_wp2_with fail
    go_ret
    exact ⟨rfl, BB.out⟩
  have d1k2 : decide ((5000 : Int) < (wi.size : Int)) = false := by simp; omega
  have d2k2 : decide (5000 < wi.size) = false := by simp; omega
  by_cases k3 : 100 < m
  ·
    have d1 : decide ((100 : Int) < (m : Int)) = true := by simp; omega
    have d2 : decide (100 < m) = true := by simp; omega
    go_enter Try.func5, Try.ntmps5
    go_wp2_with fail
    go_ret
    exact ⟨rfl, BB.out⟩
  have d1k3 : decide ((100 : Int) < (m : Int)) = false := by simp; omega
  have d2k3 : decide (100 < m) = false := by simp; omega
  obtain ⟨y, hy⟩ := AM.begIs_ex ms ba wi
  have hn2 : n ≤ 2000 := by omega
  have hfit : Fit (begAt ms ba wi y) := begAt_fit (by omega) b1 b2 hwi
  obtain ⟨bs, hbs⟩ : ∃ bs, bs = AM.best ps wi := ⟨_, rfl⟩
  have HCB := Lib.hid (fun (W : World) (D : Option Addr) (e : Nat) (h : Rd W D n (ic ms)) => begin_any D n e ms ba wi y W h (by omega) b1 b2 hwi hy)
  have HCR := Lib.hid (fun (W : World) (hb : Below w.heap.size w W) => rbegin_any A n c ms ba wi W (hr.below hb) (by omega) hwi y hy)
  have HB1 := Lib.hid (fun (W : World) (hb : Below w.heap.size w W) => best_any B m d ps wi W (hrp.below hb) hm63)
  have HB2 := Lib.hid (fun (W : World) (hb : Below w.heap.size w W) => rbest_any B m d ps wi W (hrp.below hb) hm63)
  rw [← hbs] at HB1 HB2
  generalize hx : begAt ms ba wi y = x at HCB HCR hfit
  have HSA := Lib.hid (fun W v u (h : AtIs W v x) (k : AtIs W u x) => rsame_any v x u x W h k hfit hfit)
  have HTU := Lib.hid (fun W v base (h : AtOwn W base v x) (hb : base ≤ W.heap.size) => turn_any v x base W h hb hfit)
  have HR := Lib.hid hr
  have HNI := Lib.hid (World.ownsRow_nil w w.heap.size 3 1)
  clear hy hx hbs hrp hr hfit b1 b2 hwi hl k1 k2 k3
  go_enter Try.func5, Try.ntmps5
  go_wp2_with (at_builtin; refine wpList_append_rd _ rfl _ _ 22 rfl w.heap.size 3 i0 (.int .i64 0) 8 Try.underlying22 hi hz0 hz1 hz2 rfl (.slice none 0 0) _ _ rfl HNI.out A n c (ic ms) rfl HR.out (ic_one _) (by unfold maxLen; omega) (by omega) (Nat.le_refl _) ?_; intro v2 w2 hown2 hg2 hob2; obtain ⟨A', c', rfl, _, _⟩ := own_form hown2)
  simp only [Nat.zero_add, List.nil_append] at hown2 ⊢
  replace BB := Lib.hid (below_row BB.out HNI.out (Nat.le_refl _) hg2)
  have W1 := Lib.hid hown2
  have BB2 := Lib.hid BB.out.size
  have HRO := Lib.hid (Rd.of_own hown2)
  clear hown2 hg2 hob2 HNI
  have W0B := Lib.hid (Below.refl w2.heap.size w2)
  refine (HCB.out _ _ _ HRO.out).mono ?_
  rintro e w3 ⟨v, rfl, own, hb⟩
  obtain ⟨A3, c3, D3, q3, C3, f3, rfl⟩ := own.form
  have hb2 : Below w2.heap.size w2 (w3.alloc (.cells #[.int .u8 x.ph, .int .i64 x.ba, .slice A3 x.ms.length c3, .string x.wi, .string x.va, .slice D3 x.ps.length q3, .slice C3 x.ac.length f3] 25)) := hb.alloc hb.size _
  have X3 := Lib.hid (Box.new w3 25 #[.int .u8 x.ph, .int .i64 x.ba, .slice A3 x.ms.length c3, .string x.wi, .string x.va, .slice D3 x.ps.length q3, .slice C3 x.ac.length f3])
  have O3 := Lib.hid (own.alloc (.cells #[.int .u8 x.ph, .int .i64 x.ba, .slice A3 x.ms.length c3, .string x.wi, .string x.va, .slice D3 x.ps.length q3, .slice C3 x.ac.length f3] 25))
  replace BB := Lib.hid (bmore BB.out hb2 (Nat.le_refl _))
  replace W0B := Lib.hid hb2
  have HS3 := Lib.hid (show w2.heap.size ≤ w3.heap.size from hb.size)
  clear hb hb2 own
  go_upto_region 5 with (fail)
  generalize w3.alloc (.cells #[.int .u8 x.ph, .int .i64 x.ba, .slice A3 x.ms.length c3, .string x.wi, .string x.va, .slice D3 x.ps.length q3, .slice C3 x.ac.length f3] 25) = u3 at X3 O3 BB W0B ⊢
  generalize w3.heap.size = g3 at X3 HS3 ⊢
  go_wp2_with fail
  refine (HCR.out _ BB.out).mono ?_
  rintro e w4 ⟨v, rfl, own, hb⟩
  obtain ⟨A4, c4, D4, q4, C4, f4, rfl⟩ := own.form
  have hb2 : Below u3.heap.size u3 (w4.alloc (.cells #[.int .u8 x.ph, .int .i64 x.ba, .slice A4 x.ms.length c4, .string x.wi, .string x.va, .slice D4 x.ps.length q4, .slice C4 x.ac.length f4] 25)) := hb.alloc hb.size _
  have X4 := Lib.hid (Box.new w4 25 #[.int .u8 x.ph, .int .i64 x.ba, .slice A4 x.ms.length c4, .string x.wi, .string x.va, .slice D4 x.ps.length q4, .slice C4 x.ac.length f4])
  have O4 := Lib.hid (own.alloc (.cells #[.int .u8 x.ph, .int .i64 x.ba, .slice A4 x.ms.length c4, .string x.wi, .string x.va, .slice D4 x.ps.length q4, .slice C4 x.ac.length f4] 25))
  replace X3 := Lib.hid (X3.out.below hb2 X3.out.lt)
  replace O3 := Lib.hid (O3.out.below hb2)
  replace BB := Lib.hid (bmore BB.out hb2 (Nat.le_refl _))
  replace W0B := Lib.hid (bmore W0B.out hb2 (Nat.le_refl _))
  clear hb hb2 own
  go_upto_region 6 with (fail)
  generalize w4.alloc (.cells #[.int .u8 x.ph, .int .i64 x.ba, .slice A4 x.ms.length c4, .string x.wi, .string x.va, .slice D4 x.ps.length q4, .slice C4 x.ac.length f4] 25) = u4 at X3 O3 X4 O4 BB W0B ⊢
  generalize w4.heap.size = g4 at X4 ⊢
  obtain ⟨⟨s0, s1, s2, s3, s4, s5, s6⟩, _⟩ := X3.out.seven
  obtain ⟨⟨r0, r1, r2, r3, r4, r5, r6⟩, _⟩ := X4.out.seven
  go_wp2_with fail
  clear s0 s1 s2 s3 s4 s5 s6 r0 r1 r2 r3 r4 r5 r6
  refine (HSA.out _ _ _ O3.out.is O4.out.is).mono ?_
  rintro e w5 ⟨rfl, hb⟩
  simp only [decide_true]
  replace X3 := Lib.hid (X3.out.below hb X3.out.lt)
  replace O3 := Lib.hid (O3.out.below hb)
  replace BB := Lib.hid (bmore BB.out hb (Nat.le_refl _))
  replace W0B := Lib.hid (bmore W0B.out hb (Nat.le_refl _))
  clear hb X4 O4
  have yy : (y != y) = false := by simp
  obtain ⟨⟨s0, s1, s2, s3, s4, s5, s6⟩, _⟩ := X3.out.seven
  go_wp2_with fail
  clear s0 s1 s2 s3 s4 s5 s6
  refine (HTU.out _ _ w2.heap.size O3.out W0B.out.size).mono ?_
  rintro e w6 ⟨rfl, hb⟩
  have hw2 : w.heap.size ≤ w2.heap.size := BB2.out
  replace BB := Lib.hid (BB.out.trans (hb.mono hw2))
  have R1 := Lib.hid (own_below3 W1.out (W0B.out.trans hb))
  have R2 := Lib.hid (HR.out.below BB.out)
  clear hb X3 O3 W0B
  have HSI := Lib.hid (sameInts_any A' n c' ms A n c ms w6 (Rd.of_own R1.out) R2.out hn63 hn63)
  rw [show decide (ms = ms) = true by simp] at HSI
  go_wp2_with fail
  refine HSI.out.mono ?_
  rintro e w7 ⟨rfl, q, rfl⟩
  go_wp2_with fail
  refine (HB1.out _ (below_drewN BB.out _)).mono ?_
  rintro e w8 ⟨rfl, hb⟩
  replace BB := Lib.hid (bmore (below_drewN BB.out _) hb (Nat.le_refl _))
  clear hb
  go_wp2_with fail
  refine (HB2.out _ BB.out).mono ?_
  rintro e w9 ⟨rfl, rfl⟩
  go_wp2_with fail
  go_ret
  exact ⟨by first | rfl | simp, BB.out⟩
end Go.Proofs.Ytmcfamoicdmkdaa
