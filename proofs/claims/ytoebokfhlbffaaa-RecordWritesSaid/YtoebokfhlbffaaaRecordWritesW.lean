/-
  The walk of RecordWrites: records are checked, written and read as the document's own functions do. Conditions: any record, any text.
-/
import Derived.Test.YtoebokfhlbffaaaRecRd
import Derived.Test.YtoebokfhlbffaaaRecArg
import Derived.Test.YtoebokfhlbffaaaRecTx
import Derived.Test.YtoebokfhlbffaaaRecRR
import Derived.Deep.RegionHeld3
namespace Go.Proofs.Ytoebokfhlbffaaa
open Go.RowKit RP
set_option linter.unusedVariables false
set_option linter.unusedSimpArgs false

theorem chk_bool {r : RM.Rc} {e : Int} {x : Bool} (h : ChkIs r e) (hx : x = true ↔ RM.may r) : (e == 0) = x := by
  rcases h with ⟨h, rfl⟩ | ⟨h, rfl⟩
  · rw [hx.2 h]; rfl
  · cases x
    · rfl
    · exact absurd (hx.1 rfl) h

set_option maxRecDepth 100000 in
set_option maxHeartbeats 8000000 in
theorem recordWrites_walk (v : Value) (r : RM.Rc) (s : ByteArray) (w : World) (hv : RecArg v r) (hS : s.size ≤ maxLen) :
    Calls Try.prog 4 #[v, .string s] w fun e w' => e = .returned (.bool true) ∧ Below w.heap.size w w' := by
  obtain ⟨rfl, hb1, hb2, hs⟩ := hv
  obtain ⟨k, g, p, b, u⟩ := r
  simp only at hb1 hb2 hs
  obtain ⟨t, e, hw⟩ := RM.wrIs_ex ⟨k, g, p, b, u⟩
  obtain ⟨e3, hc⟩ := chkIs_ex ⟨k, g, p, b, u⟩
  have CW := Lib.hid (fun w => write_any k g p b u hw hb1 hb2 hs w)
  have DW := Lib.hid (fun w => rwrite_any k g p b u hw hs w)
  have CC := Lib.hid (fun w => chk_any k g p b u hc hb1 hb2 hs w)
  have DM := Lib.hid (fun w => rmay_any k g p b u w hs)
  obtain ⟨q, f, hq⟩ : ∃ q f, RM.ReadIs (RM.bsz s) q f := ⟨_, _, RM.readIs_read _⟩
  obtain ⟨k2, g2, p2, b2, u2⟩ := q
  have CR := Lib.hid (fun w => (show Calls Try.prog 8 #[.string s] w fun e w' => e = .returned (.tuple #[.agg #[.int .u8 k2, .int .i64 g2, .int .i64 p2, .int .i64 b2, .string u2], .int .i64 f]) ∧ Below w.heap.size w w' from read_any s hq hS w))
  have DR := Lib.hid (fun w => (show Calls Try.prog 12 #[.string s] w fun e w' => e = .returned (.tuple #[.agg #[.int .u8 k2, .int .i64 g2, .int .i64 p2, .int .i64 b2, .string u2], .int .i64 f]) ∧ Below w.heap.size w w' from rread_any s hq hS w))
  have HC := Lib.hid hc
  have HB := Lib.hid (show Below w.heap.size w (w.alloc (.cells #[.int .u8 k, .int .i64 g, .int .i64 p, .int .i64 b, .string u] 26)) from (Below.refl _ _).alloc (Nat.le_refl _) _)
  have R := Lib.hid (Box.new w 26 #[.int .u8 k, .int .i64 g, .int .i64 p, .int .i64 b, .string u])
  unfold maxLen at hS hs
  clear hw hc hq
  go_enter Try.func4, Try.ntmps4
  by_cases l1 : 10000 < u.size
  · go_wp2_with fail
    go_ret
    exact ⟨rfl, HB.out⟩
  by_cases l2 : 10000 < s.size
  · go_wp2_with fail
    go_ret
    exact ⟨rfl, HB.out⟩
  go_wp2_with fail
  refine (CW.out _).mono ?_
  rintro e1 w1 ⟨rfl, hb⟩
  replace HB := Lib.hid (bmore HB.out hb (by simp))
  replace R := Lib.hid (R.out.below hb R.out.lt)
  clear hb CW
  obtain ⟨⟨c0, c1, c2, c3, c4⟩, f0, f1, f2, f3, f4⟩ := box5 R.out
  go_wp2_with fail
  clear c0 c1 c2 c3 c4 f0 f1 f2 f3 f4
  refine (DW.out _).mono ?_
  rintro e1 w2 ⟨rfl, hb⟩
  replace HB := Lib.hid (bmore HB.out hb (Nat.le_refl _))
  replace R := Lib.hid (R.out.below hb R.out.lt)
  clear hb DW
  go_wp2_with fail
  refine (CR.out _).mono ?_
  rintro e1 w3 ⟨rfl, hb⟩
  replace HB := Lib.hid (bmore HB.out hb (Nat.le_refl _))
  replace R := Lib.hid (R.out.below hb R.out.lt)
  replace HB := Lib.hid (HB.out.alloc HB.out.size (.cells #[.int .u8 k2, .int .i64 g2, .int .i64 p2, .int .i64 b2, .string u2] 26))
  replace R := Lib.hid (R.out.alloc (.cells #[.int .u8 k2, .int .i64 g2, .int .i64 p2, .int .i64 b2, .string u2] 26))
  have X := Lib.hid (Box.new w3 26 #[.int .u8 k2, .int .i64 g2, .int .i64 p2, .int .i64 b2, .string u2])
  clear hb CR
  go_upto_region 6 with (fail)
  generalize w3.alloc (.cells #[.int .u8 k2, .int .i64 g2, .int .i64 p2, .int .i64 b2, .string u2] 26) = w4 at HB R X ⊢
  generalize w3.heap.size = h1 at X ⊢
  go_wp2_with fail
  refine (DR.out _).mono ?_
  rintro e1 w5 ⟨rfl, hb⟩
  replace HB := Lib.hid (bmore HB.out hb (Nat.le_refl _))
  replace R := Lib.hid (R.out.below hb R.out.lt)
  replace X := Lib.hid (X.out.below hb X.out.lt)
  replace HB := Lib.hid (HB.out.alloc HB.out.size (.cells #[.int .u8 k2, .int .i64 g2, .int .i64 p2, .int .i64 b2, .string u2] 26))
  replace R := Lib.hid (R.out.alloc (.cells #[.int .u8 k2, .int .i64 g2, .int .i64 p2, .int .i64 b2, .string u2] 26))
  replace X := Lib.hid (X.out.alloc (.cells #[.int .u8 k2, .int .i64 g2, .int .i64 p2, .int .i64 b2, .string u2] 26))
  have Y := Lib.hid (Box.new w5 26 #[.int .u8 k2, .int .i64 g2, .int .i64 p2, .int .i64 b2, .string u2])
  clear hb DR
  go_upto_region 7 with (fail)
  generalize w5.alloc (.cells #[.int .u8 k2, .int .i64 g2, .int .i64 p2, .int .i64 b2, .string u2] 26) = w6 at HB R X Y ⊢
  generalize w5.heap.size = h2 at Y ⊢
  generalize w.heap.size = h0 at R ⊢
  have hSS : ∀ w', Below w6.heap.size w6 w' →
      (w'.cell? ⟨h0, 0, none⟩ = some (.int .u8 k) ∧ w'.cell? ⟨h0, 1, none⟩ = some (.int .i64 g) ∧ w'.cell? ⟨h0, 2, none⟩ = some (.int .i64 p) ∧ w'.cell? ⟨h0, 3, none⟩ = some (.int .i64 b) ∧ w'.cell? ⟨h0, 4, none⟩ = some (.string u)) ∧
      (w'.cell? ⟨h1, 0, none⟩ = some (.int .u8 k2) ∧ w'.cell? ⟨h1, 1, none⟩ = some (.int .i64 g2) ∧ w'.cell? ⟨h1, 2, none⟩ = some (.int .i64 p2) ∧ w'.cell? ⟨h1, 3, none⟩ = some (.int .i64 b2) ∧ w'.cell? ⟨h1, 4, none⟩ = some (.string u2)) ∧
      (w'.cell? ⟨h2, 0, none⟩ = some (.int .u8 k2) ∧ w'.cell? ⟨h2, 1, none⟩ = some (.int .i64 g2) ∧ w'.cell? ⟨h2, 2, none⟩ = some (.int .i64 p2) ∧ w'.cell? ⟨h2, 3, none⟩ = some (.int .i64 b2) ∧ w'.cell? ⟨h2, 4, none⟩ = some (.string u2)) := fun w' h =>
    ⟨five (R.out.below h R.out.lt), five (X.out.below h X.out.lt), five (Y.out.below h Y.out.lt)⟩
  have HSS := Lib.hid hSS; clear hSS
  have bb1 : Below w6.heap.size w6 w6.drew := (Below.refl _ _).drew
  obtain ⟨⟨_, _, _, _, _⟩, ⟨_, _, _, _, _⟩, ⟨_, _, _, _, _⟩⟩ := HSS.out w6 (Below.refl _ _)
  clear R X Y
  go_region_held3 (fun w' => (w'.cell? ⟨h0, 0, none⟩ = some (.int .u8 k) ∧ w'.cell? ⟨h0, 1, none⟩ = some (.int .i64 g) ∧ w'.cell? ⟨h0, 2, none⟩ = some (.int .i64 p) ∧ w'.cell? ⟨h0, 3, none⟩ = some (.int .i64 b) ∧ w'.cell? ⟨h0, 4, none⟩ = some (.string u)) ∧
      (w'.cell? ⟨h1, 0, none⟩ = some (.int .u8 k2) ∧ w'.cell? ⟨h1, 1, none⟩ = some (.int .i64 g2) ∧ w'.cell? ⟨h1, 2, none⟩ = some (.int .i64 p2) ∧ w'.cell? ⟨h1, 3, none⟩ = some (.int .i64 b2) ∧ w'.cell? ⟨h1, 4, none⟩ = some (.string u2)) ∧
      (w'.cell? ⟨h2, 0, none⟩ = some (.int .u8 k2) ∧ w'.cell? ⟨h2, 1, none⟩ = some (.int .i64 g2) ∧ w'.cell? ⟨h2, 2, none⟩ = some (.int .i64 p2) ∧ w'.cell? ⟨h2, 3, none⟩ = some (.int .i64 b2) ∧ w'.cell? ⟨h2, 4, none⟩ = some (.string u2)))
    (first | exact HSS.out _ bb3 | exact HSS.out _ bb2 | exact HSS.out _ bb1 | go_keep)
    (first
      | (go_at_call 10; ((with_reducible refine (CC.out _).mono ?_); rintro e wa1 ⟨rfl, ha1⟩; have bb2 : Below w6.heap.size w6 wa1 := bb1.trans (ha1.mono bb1.size)))
      | (go_at_call 13; ((with_reducible refine (DM.out _).mono ?_); rintro e wa2 ⟨q, hq, rfl, ha2⟩; have hqq := Lib.hid (chk_bool HC.out hq); clear hq; have bb3 : Below w6.heap.size w6 wa2 := bb2.trans (ha2.mono bb2.size))))
  all_goals
    go_wp2_with fail
    go_ret
    refine ⟨?_, HB.out.trans (bb3.mono HB.out.size)⟩
    show Ending.returned (.bool ((e3 == 0) == q)) = _
    rw [hqq.out]
    simp
end Go.Proofs.Ytoebokfhlbffaaa
