/-
  What package record's Write answers. Conditions: as each theorem says.
-/
import Derived.Test.YtohiemdodffhoaaRecB
namespace Go.Proofs.Ytohiemdodffhoaa.RP
open Go.RowKit
set_option linter.unusedVariables false
set_option linter.unusedSimpArgs false

theorem put_a (n : Nat) (w : World) (hn : n ≤ 1099511627776) :
    Calls Try.prog 65 #[.int .i64 n] w fun e w' => ∃ A c, e = .returned (.tuple #[.slice A (NM.enc n).length c, .int .i64 0]) ∧ Rd w' A (NM.enc n).length (bc (NM.enc n)) ∧ Below w.heap.size w w' := by
  refine (put_ok n w hn).mono ?_
  rintro e w' ⟨v, rfl, ho, hb⟩
  obtain ⟨A, c, rfl, _, _⟩ := own_slice ho
  exact ⟨A, c, rfl, Rd.of_own ho, hb⟩
theorem text_a (v : ByteArray) (w : World) (hn : v.size ≤ 4096) :
    Calls Try.prog 66 #[.string v] w fun e w' => ∃ A c, e = .returned (.tuple #[.slice A (NM.text (RM.bsz v)).length c, .int .i64 0]) ∧ Rd w' A (NM.text (RM.bsz v)).length (bc (NM.text (RM.bsz v))) ∧ Below w.heap.size w w' := by
  refine (text_ok v w hn).mono ?_
  rintro e w' ⟨u, rfl, ho, hb⟩
  obtain ⟨A, c, rfl, _, _⟩ := own_slice ho
  exact ⟨A, c, rfl, Rd.of_own ho, hb⟩

/-- a record in memory, and behind it what is gathered -/
def St (w0 w : World) (g : Nat) (pre : List UInt8) (R : Array Value) : Prop := Box w w0.heap.size 29 R ∧ Gat w g pre ∧ w0.heap.size < g ∧ Below w0.heap.size w0 w
theorem St.below {w0 w w' : World} {g : Nat} {pre : List UInt8} {R : Array Value} (h : St w0 w g pre R) (hb : Below w.heap.size w w') : St w0 w' g pre R :=
  ⟨h.1.below hb h.1.lt, h.2.1.below hb, h.2.2.1, bmore h.2.2.2 hb (Nat.le_refl _)⟩
theorem St.more {w0 w w' : World} {g : Nat} {pre l : List UInt8} {R : Array Value} (h : St w0 w g pre R) (hg : Gat w' g l) (hb : Below g w w') : St w0 w' g l R :=
  ⟨h.1.below hb h.2.2.1, hg, h.2.2.1, h.2.2.2.trans (hb.mono (Nat.le_of_lt h.2.2.1))⟩
theorem st_new {w0 w : World} {R : Array Value} (h : Box w w0.heap.size 29 R) (hb : Below w0.heap.size w0 w) :
    St w0 ((w.alloc (.cells #[.slice none 0 0] 94)).alloc (.cells #[.int .i64 0] 33)) w.heap.size [] R := by
  have h1 : Below w.heap.size w ((w.alloc (.cells #[.slice none 0 0] 94)).alloc (.cells #[.int .i64 0] 33)) :=
    ((Below.refl _ _).alloc (Nat.le_refl _) _).alloc (by simp) _
  refine ⟨h.below h1 h.lt, ⟨.slice none 0 0, (Box.new w _ _).alloc _, ?_, World.ownsRow_nil _ _ _ _⟩, h.lt, bmore hb h1 (Nat.le_refl _)⟩
  have := Box.new (w.alloc (.cells #[.slice none 0 0] 94)) 33 #[.int .i64 0]
  simpa using this

-- WALKS
set_option maxRecDepth 100000 in
set_option maxHeartbeats 4000000 in
theorem write1 (g s : Int) (b : Int) (w : World) (h : RM.may ⟨1, g, s, b, .empty⟩) :
    Calls Try.prog 36 #[.agg #[.int .u8 1, .int .i64 g, .int .i64 s, .int .i64 b, .string .empty]] w fun e w' => e = .returned (.tuple #[.string ⟨(RM.wr ⟨1, g, s, b, .empty⟩).toArray⟩, .int .i64 0]) ∧ Below w.heap.size w w' := by
  obtain ⟨i0, hi, hz0, hz1, hz2⟩ := info_parts info_u8
  have hb := RM.may_b h
  have hv := RM.may_v h
  have hg := h.1
  have hs := h.2.1
  simp only at hb hv hg hs
  obtain ⟨x, rfl⟩ : ∃ x : Nat, g = x := ⟨g.toNat, by omega⟩
  obtain ⟨y, rfl⟩ : ∃ y : Nat, s = y := ⟨s.toNat, by omega⟩
  obtain ⟨z, rfl⟩ : ∃ z : Nat, b = z := ⟨b.toNat, by omega⟩
  have CC := Lib.hid (fun w => chk_any 1 (x : Int) y z .empty (.inl ⟨h, rfl⟩) (by omega) (by omega) (by unfold maxLen; first | omega | decide) w)
  have CF := Lib.hid (fun w => fields_any (show Fld 1 true false by unfold Fld; simp) w)
  have hB := Lib.hid (show Below w.heap.size w (w.alloc (.cells #[.int .u8 1, .int .i64 x, .int .i64 y, .int .i64 z, .string .empty] 29)) from (Below.refl _ _).alloc (Nat.le_refl _) _)
  have R0 := Lib.hid (Box.new w 29 #[.int .u8 1, .int .i64 x, .int .i64 y, .int .i64 z, .string .empty])
  have HW := Lib.hid (show [] ++ NM.enc 1 ++ NM.enc x ++ NM.enc y ++ NM.enc z = RM.wr ⟨1, x, y, z, .empty⟩ by unfold RM.wr; simp)
  have hx : x ≤ 1099511627776 := by omega
  have hy : y ≤ 1099511627776 := by omega
  have hz : z ≤ 1099511627776 := by omega
  have lx := NM.enc_le x
  have ly := NM.enc_le y
  have lz := NM.enc_le z
  have lk := NM.enc_le 1
  clear h hb hg hs hv
  go_enter Try.func36, Try.ntmps36
  go_wp2_with fail
  refine (CC.out _).mono ?_
  rintro e w1 ⟨rfl, hb1⟩
  have S := Lib.hid (st_new (R0.out.below hb1 R0.out.lt) (bmore hB.out hb1 (by simp)))
  clear hb1
  go_upto_region 7 with (fail)
  generalize (w1.alloc (.cells #[.slice none 0 0] 94)).alloc (.cells #[.int .i64 0] 33) = w2 at S ⊢
  generalize w1.heap.size = g at S ⊢
  obtain ⟨c0, c1, c2, c3, c4⟩ := five S.out.1
  clear R0 hB
  go_wp2_with fail
  refine (CF.out _).mono ?_
  rintro e w3 ⟨rfl, rfl⟩
  go_wp2_with fail
  clear c0 c1 c2 c3 c4
  refine (put_a 1 _ (by omega)).mono ?_
  rintro e w4 ⟨A0, q0, rfl, hr, hb⟩
  replace S := Lib.hid (S.out.below hb); clear hb
  go_wp2_with fail
  refine (gather_any g ([]) (NM.enc 1) A0 _ q0 w4 S.out.2.1 hr (by omega) (by simp only [List.length_append, List.length_nil]; omega)).mono ?_
  rintro e w5 ⟨rfl, hg, hb⟩
  replace S := Lib.hid (S.out.more hg hb); clear hg hb hr
  obtain ⟨c0, c1, c2, c3, c4⟩ := five S.out.1
  go_wp2_with fail
  clear c0 c1 c2 c3 c4
  refine (put_a x _ hx).mono ?_
  rintro e w4 ⟨A1, q1, rfl, hr, hb⟩
  replace S := Lib.hid (S.out.below hb); clear hb
  go_wp2_with fail
  refine (gather_any g ([] ++ NM.enc 1) (NM.enc x) A1 _ q1 w4 S.out.2.1 hr (by omega) (by simp only [List.length_append, List.length_nil]; omega)).mono ?_
  rintro e w5 ⟨rfl, hg, hb⟩
  replace S := Lib.hid (S.out.more hg hb); clear hg hb hr
  obtain ⟨c0, c1, c2, c3, c4⟩ := five S.out.1
  go_wp2_with fail
  clear c0 c1 c2 c3 c4
  refine (put_a y _ hy).mono ?_
  rintro e w4 ⟨A2, q2, rfl, hr, hb⟩
  replace S := Lib.hid (S.out.below hb); clear hb
  go_wp2_with fail
  refine (gather_any g ([] ++ NM.enc 1 ++ NM.enc x) (NM.enc y) A2 _ q2 w4 S.out.2.1 hr (by omega) (by simp only [List.length_append, List.length_nil]; omega)).mono ?_
  rintro e w5 ⟨rfl, hg, hb⟩
  replace S := Lib.hid (S.out.more hg hb); clear hg hb hr
  obtain ⟨c0, c1, c2, c3, c4⟩ := five S.out.1
  go_wp2_with fail
  clear c0 c1 c2 c3 c4
  refine (put_a z _ hz).mono ?_
  rintro e w4 ⟨A3, q3, rfl, hr, hb⟩
  replace S := Lib.hid (S.out.below hb); clear hb
  go_wp2_with fail
  refine (gather_any g ([] ++ NM.enc 1 ++ NM.enc x ++ NM.enc y) (NM.enc z) A3 _ q3 w4 S.out.2.1 hr (by omega) (by simp only [List.length_append, List.length_nil]; omega)).mono ?_
  rintro e w5 ⟨rfl, hg, hb⟩
  replace S := Lib.hid (S.out.more hg hb); clear hg hb hr
  obtain ⟨c0, c1, c2, c3, c4⟩ := five S.out.1
  rw [HW.out] at S
  obtain ⟨v2, b1, b2, ho⟩ := S.out.2.1
  obtain ⟨A, c, rfl, _, _⟩ := own_slice ho
  have d1 := b1.cell 0
  have d2 := b2.cell 0
  simp at d1 d2
  have hc := str_at (Rd.of_own ho) c
  clear c0 c1 c2 c3 c4 b1 b2 ho
  go_wp2_with fail
  go_ret2
  exact ⟨rfl, S.out.2.2.2⟩
set_option maxRecDepth 100000 in
set_option maxHeartbeats 4000000 in
theorem write2 (g s : Int) (b : Int) (v : ByteArray) (w : World) (h : RM.may ⟨2, g, s, b, v⟩) :
    Calls Try.prog 36 #[.agg #[.int .u8 2, .int .i64 g, .int .i64 s, .int .i64 b, .string v]] w fun e w' => e = .returned (.tuple #[.string ⟨(RM.wr ⟨2, g, s, b, v⟩).toArray⟩, .int .i64 0]) ∧ Below w.heap.size w w' := by
  obtain ⟨i0, hi, hz0, hz1, hz2⟩ := info_parts info_u8
  have hb := RM.may_b h
  have hv := RM.may_v h
  have hg := h.1
  have hs := h.2.1
  simp only at hb hv hg hs
  obtain ⟨x, rfl⟩ : ∃ x : Nat, g = x := ⟨g.toNat, by omega⟩
  obtain ⟨y, rfl⟩ : ∃ y : Nat, s = y := ⟨s.toNat, by omega⟩
  obtain ⟨z, rfl⟩ : ∃ z : Nat, b = z := ⟨b.toNat, by omega⟩
  have CC := Lib.hid (fun w => chk_any 2 (x : Int) y z v (.inl ⟨h, rfl⟩) (by omega) (by omega) (by unfold maxLen; first | omega | decide) w)
  have CF := Lib.hid (fun w => fields_any (show Fld 2 true true by unfold Fld; simp) w)
  have hB := Lib.hid (show Below w.heap.size w (w.alloc (.cells #[.int .u8 2, .int .i64 x, .int .i64 y, .int .i64 z, .string v] 29)) from (Below.refl _ _).alloc (Nat.le_refl _) _)
  have R0 := Lib.hid (Box.new w 29 #[.int .u8 2, .int .i64 x, .int .i64 y, .int .i64 z, .string v])
  have HW := Lib.hid (show [] ++ NM.enc 2 ++ NM.enc x ++ NM.enc y ++ NM.enc z ++ NM.text (RM.bsz v) = RM.wr ⟨2, x, y, z, v⟩ by unfold RM.wr; simp)
  have hx : x ≤ 1099511627776 := by omega
  have hy : y ≤ 1099511627776 := by omega
  have hz : z ≤ 1099511627776 := by omega
  have hv4 : v.size ≤ 4096 := by omega
  have lt : (NM.text (RM.bsz v)).length ≤ 1100 := by unfold NM.text; rw [List.length_append, RM.bsz_len]; have := NM.enc_le v.size; omega
  have lx := NM.enc_le x
  have ly := NM.enc_le y
  have lz := NM.enc_le z
  have lk := NM.enc_le 2
  clear h hb hg hs hv
  go_enter Try.func36, Try.ntmps36
  go_wp2_with fail
  refine (CC.out _).mono ?_
  rintro e w1 ⟨rfl, hb1⟩
  have S := Lib.hid (st_new (R0.out.below hb1 R0.out.lt) (bmore hB.out hb1 (by simp)))
  clear hb1
  go_upto_region 7 with (fail)
  generalize (w1.alloc (.cells #[.slice none 0 0] 94)).alloc (.cells #[.int .i64 0] 33) = w2 at S ⊢
  generalize w1.heap.size = g at S ⊢
  obtain ⟨c0, c1, c2, c3, c4⟩ := five S.out.1
  clear R0 hB
  go_wp2_with fail
  refine (CF.out _).mono ?_
  rintro e w3 ⟨rfl, rfl⟩
  go_wp2_with fail
  clear c0 c1 c2 c3 c4
  refine (put_a 2 _ (by omega)).mono ?_
  rintro e w4 ⟨A0, q0, rfl, hr, hb⟩
  replace S := Lib.hid (S.out.below hb); clear hb
  go_wp2_with fail
  refine (gather_any g ([]) (NM.enc 2) A0 _ q0 w4 S.out.2.1 hr (by omega) (by simp only [List.length_append, List.length_nil]; omega)).mono ?_
  rintro e w5 ⟨rfl, hg, hb⟩
  replace S := Lib.hid (S.out.more hg hb); clear hg hb hr
  obtain ⟨c0, c1, c2, c3, c4⟩ := five S.out.1
  go_wp2_with fail
  clear c0 c1 c2 c3 c4
  refine (put_a x _ hx).mono ?_
  rintro e w4 ⟨A1, q1, rfl, hr, hb⟩
  replace S := Lib.hid (S.out.below hb); clear hb
  go_wp2_with fail
  refine (gather_any g ([] ++ NM.enc 2) (NM.enc x) A1 _ q1 w4 S.out.2.1 hr (by omega) (by simp only [List.length_append, List.length_nil]; omega)).mono ?_
  rintro e w5 ⟨rfl, hg, hb⟩
  replace S := Lib.hid (S.out.more hg hb); clear hg hb hr
  obtain ⟨c0, c1, c2, c3, c4⟩ := five S.out.1
  go_wp2_with fail
  clear c0 c1 c2 c3 c4
  refine (put_a y _ hy).mono ?_
  rintro e w4 ⟨A2, q2, rfl, hr, hb⟩
  replace S := Lib.hid (S.out.below hb); clear hb
  go_wp2_with fail
  refine (gather_any g ([] ++ NM.enc 2 ++ NM.enc x) (NM.enc y) A2 _ q2 w4 S.out.2.1 hr (by omega) (by simp only [List.length_append, List.length_nil]; omega)).mono ?_
  rintro e w5 ⟨rfl, hg, hb⟩
  replace S := Lib.hid (S.out.more hg hb); clear hg hb hr
  obtain ⟨c0, c1, c2, c3, c4⟩ := five S.out.1
  go_wp2_with fail
  clear c0 c1 c2 c3 c4
  refine (put_a z _ hz).mono ?_
  rintro e w4 ⟨A3, q3, rfl, hr, hb⟩
  replace S := Lib.hid (S.out.below hb); clear hb
  go_wp2_with fail
  refine (gather_any g ([] ++ NM.enc 2 ++ NM.enc x ++ NM.enc y) (NM.enc z) A3 _ q3 w4 S.out.2.1 hr (by omega) (by simp only [List.length_append, List.length_nil]; omega)).mono ?_
  rintro e w5 ⟨rfl, hg, hb⟩
  replace S := Lib.hid (S.out.more hg hb); clear hg hb hr
  obtain ⟨c0, c1, c2, c3, c4⟩ := five S.out.1
  go_wp2_with fail
  clear c0 c1 c2 c3 c4
  refine (text_a v _ hv4).mono ?_
  rintro e w4 ⟨A4, q4, rfl, hr, hb⟩
  replace S := Lib.hid (S.out.below hb); clear hb
  go_wp2_with fail
  refine (gather_any g ([] ++ NM.enc 2 ++ NM.enc x ++ NM.enc y ++ NM.enc z) (NM.text (RM.bsz v)) A4 _ q4 w4 S.out.2.1 hr (by omega) (by simp only [List.length_append, List.length_nil]; omega)).mono ?_
  rintro e w5 ⟨rfl, hg, hb⟩
  replace S := Lib.hid (S.out.more hg hb); clear hg hb hr
  obtain ⟨c0, c1, c2, c3, c4⟩ := five S.out.1
  rw [HW.out] at S
  obtain ⟨v2, b1, b2, ho⟩ := S.out.2.1
  obtain ⟨A, c, rfl, _, _⟩ := own_slice ho
  have d1 := b1.cell 0
  have d2 := b2.cell 0
  simp at d1 d2
  have hc := str_at (Rd.of_own ho) c
  clear c0 c1 c2 c3 c4 b1 b2 ho
  go_wp2_with fail
  go_ret2
  exact ⟨rfl, S.out.2.2.2⟩
set_option maxRecDepth 100000 in
set_option maxHeartbeats 4000000 in
theorem write3 (g s : Int) (v : ByteArray) (w : World) (h : RM.may ⟨3, g, s, 0, v⟩) :
    Calls Try.prog 36 #[.agg #[.int .u8 3, .int .i64 g, .int .i64 s, .int .i64 0, .string v]] w fun e w' => e = .returned (.tuple #[.string ⟨(RM.wr ⟨3, g, s, 0, v⟩).toArray⟩, .int .i64 0]) ∧ Below w.heap.size w w' := by
  obtain ⟨i0, hi, hz0, hz1, hz2⟩ := info_parts info_u8
  have hb := RM.may_b h
  have hv := RM.may_v h
  have hg := h.1
  have hs := h.2.1
  simp only at hb hv hg hs
  obtain ⟨x, rfl⟩ : ∃ x : Nat, g = x := ⟨g.toNat, by omega⟩
  obtain ⟨y, rfl⟩ : ∃ y : Nat, s = y := ⟨s.toNat, by omega⟩
  have CC := Lib.hid (fun w => chk_any 3 (x : Int) y 0 v (.inl ⟨h, rfl⟩) (by omega) (by omega) (by unfold maxLen; first | omega | decide) w)
  have CF := Lib.hid (fun w => fields_any (show Fld 3 false true by unfold Fld; simp) w)
  have hB := Lib.hid (show Below w.heap.size w (w.alloc (.cells #[.int .u8 3, .int .i64 x, .int .i64 y, .int .i64 0, .string v] 29)) from (Below.refl _ _).alloc (Nat.le_refl _) _)
  have R0 := Lib.hid (Box.new w 29 #[.int .u8 3, .int .i64 x, .int .i64 y, .int .i64 0, .string v])
  have HW := Lib.hid (show [] ++ NM.enc 3 ++ NM.enc x ++ NM.enc y ++ NM.text (RM.bsz v) = RM.wr ⟨3, x, y, 0, v⟩ by unfold RM.wr; simp)
  have hx : x ≤ 1099511627776 := by omega
  have hy : y ≤ 1099511627776 := by omega
  have hv4 : v.size ≤ 4096 := by omega
  have lt : (NM.text (RM.bsz v)).length ≤ 1100 := by unfold NM.text; rw [List.length_append, RM.bsz_len]; have := NM.enc_le v.size; omega
  have lx := NM.enc_le x
  have ly := NM.enc_le y
  have lk := NM.enc_le 3
  clear h hb hg hs hv
  go_enter Try.func36, Try.ntmps36
  go_wp2_with fail
  refine (CC.out _).mono ?_
  rintro e w1 ⟨rfl, hb1⟩
  have S := Lib.hid (st_new (R0.out.below hb1 R0.out.lt) (bmore hB.out hb1 (by simp)))
  clear hb1
  go_upto_region 7 with (fail)
  generalize (w1.alloc (.cells #[.slice none 0 0] 94)).alloc (.cells #[.int .i64 0] 33) = w2 at S ⊢
  generalize w1.heap.size = g at S ⊢
  obtain ⟨c0, c1, c2, c3, c4⟩ := five S.out.1
  clear R0 hB
  go_wp2_with fail
  refine (CF.out _).mono ?_
  rintro e w3 ⟨rfl, rfl⟩
  go_wp2_with fail
  clear c0 c1 c2 c3 c4
  refine (put_a 3 _ (by omega)).mono ?_
  rintro e w4 ⟨A0, q0, rfl, hr, hb⟩
  replace S := Lib.hid (S.out.below hb); clear hb
  go_wp2_with fail
  refine (gather_any g ([]) (NM.enc 3) A0 _ q0 w4 S.out.2.1 hr (by omega) (by simp only [List.length_append, List.length_nil]; omega)).mono ?_
  rintro e w5 ⟨rfl, hg, hb⟩
  replace S := Lib.hid (S.out.more hg hb); clear hg hb hr
  obtain ⟨c0, c1, c2, c3, c4⟩ := five S.out.1
  go_wp2_with fail
  clear c0 c1 c2 c3 c4
  refine (put_a x _ hx).mono ?_
  rintro e w4 ⟨A1, q1, rfl, hr, hb⟩
  replace S := Lib.hid (S.out.below hb); clear hb
  go_wp2_with fail
  refine (gather_any g ([] ++ NM.enc 3) (NM.enc x) A1 _ q1 w4 S.out.2.1 hr (by omega) (by simp only [List.length_append, List.length_nil]; omega)).mono ?_
  rintro e w5 ⟨rfl, hg, hb⟩
  replace S := Lib.hid (S.out.more hg hb); clear hg hb hr
  obtain ⟨c0, c1, c2, c3, c4⟩ := five S.out.1
  go_wp2_with fail
  clear c0 c1 c2 c3 c4
  refine (put_a y _ hy).mono ?_
  rintro e w4 ⟨A2, q2, rfl, hr, hb⟩
  replace S := Lib.hid (S.out.below hb); clear hb
  go_wp2_with fail
  refine (gather_any g ([] ++ NM.enc 3 ++ NM.enc x) (NM.enc y) A2 _ q2 w4 S.out.2.1 hr (by omega) (by simp only [List.length_append, List.length_nil]; omega)).mono ?_
  rintro e w5 ⟨rfl, hg, hb⟩
  replace S := Lib.hid (S.out.more hg hb); clear hg hb hr
  obtain ⟨c0, c1, c2, c3, c4⟩ := five S.out.1
  go_wp2_with fail
  clear c0 c1 c2 c3 c4
  refine (text_a v _ hv4).mono ?_
  rintro e w4 ⟨A3, q3, rfl, hr, hb⟩
  replace S := Lib.hid (S.out.below hb); clear hb
  go_wp2_with fail
  refine (gather_any g ([] ++ NM.enc 3 ++ NM.enc x ++ NM.enc y) (NM.text (RM.bsz v)) A3 _ q3 w4 S.out.2.1 hr (by omega) (by simp only [List.length_append, List.length_nil]; omega)).mono ?_
  rintro e w5 ⟨rfl, hg, hb⟩
  replace S := Lib.hid (S.out.more hg hb); clear hg hb hr
  obtain ⟨c0, c1, c2, c3, c4⟩ := five S.out.1
  rw [HW.out] at S
  obtain ⟨v2, b1, b2, ho⟩ := S.out.2.1
  obtain ⟨A, c, rfl, _, _⟩ := own_slice ho
  have d1 := b1.cell 0
  have d2 := b2.cell 0
  simp at d1 d2
  have hc := str_at (Rd.of_own ho) c
  clear c0 c1 c2 c3 c4 b1 b2 ho
  go_wp2_with fail
  go_ret2
  exact ⟨rfl, S.out.2.2.2⟩

theorem write_any {t : ByteArray} {e : Int} (k g s b : Int) (v : ByteArray) (h : RM.WrIs ⟨k, g, s, b, v⟩ t e) (h1 : -9223372036854775808 ≤ b) (h2 : b ≤ 9223372036854775807) (hs : v.size ≤ maxLen) (w : World) :
    Calls Try.prog 36 #[.agg #[.int .u8 k, .int .i64 g, .int .i64 s, .int .i64 b, .string v]] w fun e' w' => e' = .returned (.tuple #[.string t, .int .i64 e]) ∧ Below w.heap.size w w' := by
  rcases h with ⟨h, rfl, rfl⟩ | ⟨h, rfl, rfl⟩
  · rcases h.2.2 with ⟨hk, hb, hv⟩ | ⟨hk, hb, hv⟩ | ⟨hk, hb, hv⟩ <;> simp only at hk hb hv
    · subst hk hv
      exact write1 g s b w h
    · subst hk
      exact write2 g s b v w h
    · subst hk hb
      exact write3 g s v w h
  · have CC := Lib.hid (fun w => chk_any k g s b v (.inr ⟨h, rfl⟩) h1 h2 hs w)
    have hB := Lib.hid (show Below w.heap.size w (w.alloc (.cells #[.int .u8 k, .int .i64 g, .int .i64 s, .int .i64 b, .string v] 29)) from (Below.refl _ _).alloc (Nat.le_refl _) _)
    clear h
    go_enter Try.func36, Try.ntmps36
    go_wp2_with fail
    refine (CC.out _).mono ?_
    rintro e w1 ⟨rfl, hb1⟩
    have HB1 := Lib.hid (bmore hB.out hb1 (by simp))
    clear hb1
    go_wp2_with fail
    go_ret2
    exact ⟨rfl, HB1.out⟩
end Go.Proofs.Ytohiemdodffhoaa.RP
