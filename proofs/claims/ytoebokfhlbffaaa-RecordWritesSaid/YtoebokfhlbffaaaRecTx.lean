/-
  What the document's own Text and Write of layer 10 (towncrierref10) answer. Conditions: as each theorem says.
-/
import Derived.Test.YtoebokfhlbffaaaRecRM
namespace Go.Proofs.Ytoebokfhlbffaaa.RP
open Go.RowKit
set_option linter.unusedVariables false
set_option linter.unusedSimpArgs false

theorem str_of {w : World} {A : Option Addr} {n : Nat} {l : List UInt8} (h : Rd w A n (bc l)) (cap : Nat) : (convert 38 9 (.slice A n cap)).run Try.prog w = .ok (.string ⟨l.toArray⟩) w :=
  run_string_of _ _ _ 5 _ _ cap _ Try.underlying38 Try.underlying5 Try.underlying9 h
theorem enc_small {n : Nat} (h : n < 128) : NM.enc n = [UInt8.ofNat n] := by
  unfold NM.enc NM.encF
  rw [if_pos h]
/-- two bytes that were just laid -/
theorem own_two (w : World) (k x : Nat) (hk : k < 128) (hx : x < 128) : (w.alloc (.cells #[.int .u8 k, .int .u8 x] 5)).ownsRow w.heap.size 5 1 (.slice (some ⟨w.heap.size, 0, none⟩) 2 2) (NM.enc k ++ NM.enc x).length (bc (NM.enc k ++ NM.enc x)) := by
  have e : bc (NM.enc k ++ NM.enc x) = [.int .u8 k, .int .u8 x] := by
    rw [enc_small hk, enc_small hx]
    unfold bc
    simp
    omega
  have el : (NM.enc k ++ NM.enc x).length = 2 := by rw [enc_small hk, enc_small hx]; rfl
  rw [e, el]
  exact ⟨rfl, .inr ⟨w.heap.size, 2, _, rfl, Nat.le_refl _, Box.new w _ _, by omega, by unfold maxLen; omega, rfl, rfl⟩⟩
/-- the text so far: bytes of the call's own behind the record's variable -/
def Tx (w0 w : World) (v : Value) (pre : List UInt8) (R : Array Value) : Prop :=
  Box w w0.heap.size 26 R ∧ w.ownsRow (w0.heap.size + 1) 5 1 v pre.length (bc pre) ∧ Below w0.heap.size w0 w
theorem Tx.below {w0 w w' : World} {v : Value} {pre : List UInt8} {R : Array Value} (h : Tx w0 w v pre R) (hb : Below w.heap.size w w') : Tx w0 w' v pre R :=
  ⟨h.1.below hb h.1.lt, own_below h.2.1 hb, bmore h.2.2 hb (Nat.le_refl _)⟩
theorem rown_ge {w : World} {base : Nat} {e : TypeId} {v : Value} {n : Nat} {xs : List Value} (h : w.ownsRow base e 1 v n xs) : ∀ k, v.ownBlock = some k → base ≤ k := by
  intro k hk
  rcases h.2 with ⟨rfl, _⟩ | ⟨g', cap, cur, rfl, hb, _⟩
  · simp [Value.ownBlock] at hk
  · simp [Value.ownBlock] at hk; omega
theorem Tx.more {w0 w w' : World} {v v' : Value} {pre l : List UInt8} {n : Nat} {R : Array Value} (h : Tx w0 w v pre R) (hg : w.grownBy w' v.ownBlock) (ho : w'.ownsRow (w0.heap.size + 1) 5 1 v' (pre.length + n) (bc pre ++ bc l)) (hn : l.length = n) : Tx w0 w' v' (pre ++ l) R := by
  have hge := rown_ge h.2.1
  refine ⟨(hg.block _ h.1.lt (fun e => by have := hge _ e.symm; omega)).trans h.1, ?_, h.2.2.grown hg h.2.2.size (fun k hk => by have := hge k hk; omega)⟩
  rw [List.length_append, bc_append, hn]
  exact ho
theorem bytes_a (n : Nat) (w : World) (hn : n ≤ 1099511627776) :
    Calls Try.prog 33 #[.int .i64 n] w fun e w' => ∃ A c, e = .returned (.slice A (NM.enc n).length c) ∧ Rd w' A (NM.enc n).length (bc (NM.enc n)) ∧ Below w.heap.size w w' := by
  refine (refBytes_any n w hn).mono ?_
  rintro e w' ⟨v, rfl, ho, hb⟩
  obtain ⟨A, c, rfl, _, _⟩ := own_slice ho
  exact ⟨A, c, rfl, Rd.of_own ho, hb⟩
theorem tbytes_a (v : ByteArray) (w : World) (hn : v.size ≤ 4096) :
    Calls Try.prog 34 #[.string v] w fun e w' => ∃ A c, e = .returned (.slice A (NM.text (RM.bsz v)).length c) ∧ Rd w' A (NM.text (RM.bsz v)).length (bc (NM.text (RM.bsz v))) ∧ Below w.heap.size w w' := by
  refine (refTextBytes v w hn).mono ?_
  rintro e w' ⟨u, rfl, ho, hb⟩
  obtain ⟨A, c, rfl, _, _⟩ := own_slice ho
  exact ⟨A, c, rfl, Rd.of_own ho, hb⟩

set_option maxRecDepth 100000 in
set_option maxHeartbeats 4000000 in
theorem text1 (g s : Int) (b : Int) (w : World) (h : RM.may ⟨1, g, s, b, .empty⟩) :
    Calls Try.prog 22 #[.agg #[.int .u8 1, .int .i64 g, .int .i64 s, .int .i64 b, .string .empty]] w fun e w' => e = .returned (.string ⟨(RM.wr ⟨1, g, s, b, .empty⟩).toArray⟩) ∧ Below w.heap.size w w' := by
  obtain ⟨i0, hi, hz0, hz1, hz2⟩ := info_parts info_u8
  have hb := RM.may_b h
  have hv := RM.may_v h
  have hg := h.1
  have hs := h.2.1
  simp only at hb hv hg hs
  obtain ⟨x, rfl⟩ : ∃ x : Nat, g = x := ⟨g.toNat, by omega⟩
  obtain ⟨y, rfl⟩ : ∃ y : Nat, s = y := ⟨s.toNat, by omega⟩
  obtain ⟨z, rfl⟩ : ∃ z : Nat, b = z := ⟨b.toNat, by omega⟩
  have hB := Lib.hid (show Below w.heap.size w (w.alloc (.cells #[.int .u8 1, .int .i64 x, .int .i64 y, .int .i64 z, .string .empty] 26)) from (Below.refl _ _).alloc (Nat.le_refl _) _)
  have R0 := Lib.hid (Box.new w 26 #[.int .u8 1, .int .i64 x, .int .i64 y, .int .i64 z, .string .empty])
  have HW := Lib.hid (show NM.enc 1 ++ NM.enc x ++ NM.enc y ++ NM.enc z = RM.wr ⟨1, x, y, z, .empty⟩ by unfold RM.wr; simp)
  have hx : x ≤ 3 := by omega
  have hxm := Lib.hid (show (x : Int) % 256 = (x : Int) by omega)
  have hy : y ≤ 1099511627776 := by omega
  have hz : z ≤ 1099511627776 := by omega
  have lx := NM.enc_le x
  have ly := NM.enc_le y
  have lz := NM.enc_le z
  have lk := NM.enc_le 1
  clear h hb hg hs hv
  go_enter Try.func22, Try.ntmps22
  go_upto_region 2 with (fail)
  try simp only [hxm.out]
  have T : Hid (Tx w ((w.alloc (.cells #[.int .u8 1, .int .i64 x, .int .i64 y, .int .i64 z, .string .empty] 26)).alloc (.cells #[.int .u8 1, .int .u8 x] 5)) (.slice (some ⟨w.heap.size + 1, 0, none⟩) 2 2) (NM.enc 1 ++ NM.enc x) #[.int .u8 1, .int .i64 x, .int .i64 y, .int .i64 z, .string .empty]) :=
    Lib.hid ⟨R0.out.alloc _, by have := own_two (w.alloc (.cells #[.int .u8 1, .int .i64 x, .int .i64 y, .int .i64 z, .string .empty] 26)) 1 x (by omega) (by omega); simpa using this, hB.out.alloc (by simp) _⟩
  generalize (w.alloc (.cells #[.int .u8 1, .int .i64 x, .int .i64 y, .int .i64 z, .string .empty] 26)).alloc (.cells #[.int .u8 1, .int .u8 x] 5) = w1 at T ⊢
  clear hB R0
  obtain ⟨c0, c1, c2, c3, c4⟩ := (show _ ∧ _ ∧ _ ∧ _ ∧ _ from ⟨T.out.1.cell 0, T.out.1.cell 1, T.out.1.cell 2, T.out.1.cell 3, T.out.1.cell 4⟩)
  simp at c0 c1 c2 c3 c4
  go_wp2_with fail
  clear c0 c1 c2 c3 c4
  refine (bytes_a y _ hy).mono ?_
  rintro e w4 ⟨A0, q0, rfl, hr, hb⟩
  replace T := Lib.hid (T.out.below hb); clear hb
  have hsz := T.out.1.lt
  have HR := Lib.hid hr; clear hr
  go_upto_region 3 with (at_builtin; refine wpList_append_rd _ rfl _ _ 38 rfl (w.heap.size + 1) 5 i0 (.int .u8 0) 1 Try.underlying38 hi hz0 hz1 hz2 rfl _ _ _ rfl T.out.2.1 A0 _ q0 (bc (NM.enc y)) rfl HR.out (bc_one _) (by unfold maxLen; simp only [List.length_append]; omega) (by simp only [List.length_append]; omega) hsz ?_; intro v0 w5 hown hgr hob)
  replace T := Lib.hid (T.out.more hgr hown rfl); clear hgr hown hob hsz HR
  obtain ⟨c0, c1, c2, c3, c4⟩ := (show _ ∧ _ ∧ _ ∧ _ ∧ _ from ⟨T.out.1.cell 0, T.out.1.cell 1, T.out.1.cell 2, T.out.1.cell 3, T.out.1.cell 4⟩)
  simp at c0 c1 c2 c3 c4
  go_wp2_with fail
  clear c0 c1 c2 c3 c4
  refine (bytes_a z _ hz).mono ?_
  rintro e w4 ⟨A1, q1, rfl, hr, hb⟩
  replace T := Lib.hid (T.out.below hb); clear hb
  have hsz := T.out.1.lt
  have HR := Lib.hid hr; clear hr
  go_upto_region 5 with (at_builtin; refine wpList_append_rd _ rfl _ _ 38 rfl (w.heap.size + 1) 5 i0 (.int .u8 0) 1 Try.underlying38 hi hz0 hz1 hz2 rfl _ _ _ rfl T.out.2.1 A1 _ q1 (bc (NM.enc z)) rfl HR.out (bc_one _) (by unfold maxLen; simp only [List.length_append]; omega) (by simp only [List.length_append]; omega) hsz ?_; intro v1 w5 hown hgr hob)
  replace T := Lib.hid (T.out.more hgr hown rfl); clear hgr hown hob hsz HR
  obtain ⟨c0, c1, c2, c3, c4⟩ := (show _ ∧ _ ∧ _ ∧ _ ∧ _ from ⟨T.out.1.cell 0, T.out.1.cell 1, T.out.1.cell 2, T.out.1.cell 3, T.out.1.cell 4⟩)
  simp at c0 c1 c2 c3 c4
  rw [HW.out] at T
  obtain ⟨A, q, rfl, _, _⟩ := own_slice T.out.2.1
  have hc := str_of (Rd.of_own T.out.2.1) q
  go_wp2_with fail
  go_ret
  exact ⟨rfl, T.out.2.2⟩

set_option maxRecDepth 100000 in
set_option maxHeartbeats 4000000 in
theorem text2 (g s : Int) (b : Int) (v : ByteArray) (w : World) (h : RM.may ⟨2, g, s, b, v⟩) :
    Calls Try.prog 22 #[.agg #[.int .u8 2, .int .i64 g, .int .i64 s, .int .i64 b, .string v]] w fun e w' => e = .returned (.string ⟨(RM.wr ⟨2, g, s, b, v⟩).toArray⟩) ∧ Below w.heap.size w w' := by
  obtain ⟨i0, hi, hz0, hz1, hz2⟩ := info_parts info_u8
  have hb := RM.may_b h
  have hv := RM.may_v h
  have hg := h.1
  have hs := h.2.1
  simp only at hb hv hg hs
  obtain ⟨x, rfl⟩ : ∃ x : Nat, g = x := ⟨g.toNat, by omega⟩
  obtain ⟨y, rfl⟩ : ∃ y : Nat, s = y := ⟨s.toNat, by omega⟩
  obtain ⟨z, rfl⟩ : ∃ z : Nat, b = z := ⟨b.toNat, by omega⟩
  have hB := Lib.hid (show Below w.heap.size w (w.alloc (.cells #[.int .u8 2, .int .i64 x, .int .i64 y, .int .i64 z, .string v] 26)) from (Below.refl _ _).alloc (Nat.le_refl _) _)
  have R0 := Lib.hid (Box.new w 26 #[.int .u8 2, .int .i64 x, .int .i64 y, .int .i64 z, .string v])
  have HW := Lib.hid (show NM.enc 2 ++ NM.enc x ++ NM.enc y ++ NM.enc z ++ NM.text (RM.bsz v) = RM.wr ⟨2, x, y, z, v⟩ by unfold RM.wr; simp)
  have hx : x ≤ 3 := by omega
  have hxm := Lib.hid (show (x : Int) % 256 = (x : Int) by omega)
  have hy : y ≤ 1099511627776 := by omega
  have hz : z ≤ 1099511627776 := by omega
  have hv4 : v.size ≤ 4096 := by omega
  have lt : (NM.text (RM.bsz v)).length ≤ 1100 := by unfold NM.text; rw [List.length_append, RM.bsz_len]; have := NM.enc_le v.size; omega
  have lx := NM.enc_le x
  have ly := NM.enc_le y
  have lz := NM.enc_le z
  have lk := NM.enc_le 2
  clear h hb hg hs hv
  go_enter Try.func22, Try.ntmps22
  go_upto_region 2 with (fail)
  try simp only [hxm.out]
  have T : Hid (Tx w ((w.alloc (.cells #[.int .u8 2, .int .i64 x, .int .i64 y, .int .i64 z, .string v] 26)).alloc (.cells #[.int .u8 2, .int .u8 x] 5)) (.slice (some ⟨w.heap.size + 1, 0, none⟩) 2 2) (NM.enc 2 ++ NM.enc x) #[.int .u8 2, .int .i64 x, .int .i64 y, .int .i64 z, .string v]) :=
    Lib.hid ⟨R0.out.alloc _, by have := own_two (w.alloc (.cells #[.int .u8 2, .int .i64 x, .int .i64 y, .int .i64 z, .string v] 26)) 2 x (by omega) (by omega); simpa using this, hB.out.alloc (by simp) _⟩
  generalize (w.alloc (.cells #[.int .u8 2, .int .i64 x, .int .i64 y, .int .i64 z, .string v] 26)).alloc (.cells #[.int .u8 2, .int .u8 x] 5) = w1 at T ⊢
  clear hB R0
  obtain ⟨c0, c1, c2, c3, c4⟩ := (show _ ∧ _ ∧ _ ∧ _ ∧ _ from ⟨T.out.1.cell 0, T.out.1.cell 1, T.out.1.cell 2, T.out.1.cell 3, T.out.1.cell 4⟩)
  simp at c0 c1 c2 c3 c4
  go_wp2_with fail
  clear c0 c1 c2 c3 c4
  refine (bytes_a y _ hy).mono ?_
  rintro e w4 ⟨A0, q0, rfl, hr, hb⟩
  replace T := Lib.hid (T.out.below hb); clear hb
  have hsz := T.out.1.lt
  have HR := Lib.hid hr; clear hr
  go_upto_region 3 with (at_builtin; refine wpList_append_rd _ rfl _ _ 38 rfl (w.heap.size + 1) 5 i0 (.int .u8 0) 1 Try.underlying38 hi hz0 hz1 hz2 rfl _ _ _ rfl T.out.2.1 A0 _ q0 (bc (NM.enc y)) rfl HR.out (bc_one _) (by unfold maxLen; simp only [List.length_append]; omega) (by simp only [List.length_append]; omega) hsz ?_; intro v0 w5 hown hgr hob)
  replace T := Lib.hid (T.out.more hgr hown rfl); clear hgr hown hob hsz HR
  obtain ⟨c0, c1, c2, c3, c4⟩ := (show _ ∧ _ ∧ _ ∧ _ ∧ _ from ⟨T.out.1.cell 0, T.out.1.cell 1, T.out.1.cell 2, T.out.1.cell 3, T.out.1.cell 4⟩)
  simp at c0 c1 c2 c3 c4
  go_wp2_with fail
  clear c0 c1 c2 c3 c4
  refine (bytes_a z _ hz).mono ?_
  rintro e w4 ⟨A1, q1, rfl, hr, hb⟩
  replace T := Lib.hid (T.out.below hb); clear hb
  have hsz := T.out.1.lt
  have HR := Lib.hid hr; clear hr
  go_upto_region 5 with (at_builtin; refine wpList_append_rd _ rfl _ _ 38 rfl (w.heap.size + 1) 5 i0 (.int .u8 0) 1 Try.underlying38 hi hz0 hz1 hz2 rfl _ _ _ rfl T.out.2.1 A1 _ q1 (bc (NM.enc z)) rfl HR.out (bc_one _) (by unfold maxLen; simp only [List.length_append]; omega) (by simp only [List.length_append]; omega) hsz ?_; intro v1 w5 hown hgr hob)
  replace T := Lib.hid (T.out.more hgr hown rfl); clear hgr hown hob hsz HR
  obtain ⟨c0, c1, c2, c3, c4⟩ := (show _ ∧ _ ∧ _ ∧ _ ∧ _ from ⟨T.out.1.cell 0, T.out.1.cell 1, T.out.1.cell 2, T.out.1.cell 3, T.out.1.cell 4⟩)
  simp at c0 c1 c2 c3 c4
  go_wp2_with fail
  clear c0 c1 c2 c3 c4
  refine (tbytes_a v _ hv4).mono ?_
  rintro e w4 ⟨A2, q2, rfl, hr, hb⟩
  replace T := Lib.hid (T.out.below hb); clear hb
  have hsz := T.out.1.lt
  have HR := Lib.hid hr; clear hr
  go_upto_region 7 with (at_builtin; refine wpList_append_rd _ rfl _ _ 38 rfl (w.heap.size + 1) 5 i0 (.int .u8 0) 1 Try.underlying38 hi hz0 hz1 hz2 rfl _ _ _ rfl T.out.2.1 A2 _ q2 (bc (NM.text (RM.bsz v))) rfl HR.out (bc_one _) (by unfold maxLen; simp only [List.length_append]; omega) (by simp only [List.length_append]; omega) hsz ?_; intro v2 w5 hown hgr hob)
  replace T := Lib.hid (T.out.more hgr hown rfl); clear hgr hown hob hsz HR
  obtain ⟨c0, c1, c2, c3, c4⟩ := (show _ ∧ _ ∧ _ ∧ _ ∧ _ from ⟨T.out.1.cell 0, T.out.1.cell 1, T.out.1.cell 2, T.out.1.cell 3, T.out.1.cell 4⟩)
  simp at c0 c1 c2 c3 c4
  rw [HW.out] at T
  obtain ⟨A, q, rfl, _, _⟩ := own_slice T.out.2.1
  have hc := str_of (Rd.of_own T.out.2.1) q
  go_wp2_with fail
  go_ret
  exact ⟨rfl, T.out.2.2⟩

set_option maxRecDepth 100000 in
set_option maxHeartbeats 4000000 in
theorem text3 (g s : Int) (v : ByteArray) (w : World) (h : RM.may ⟨3, g, s, 0, v⟩) :
    Calls Try.prog 22 #[.agg #[.int .u8 3, .int .i64 g, .int .i64 s, .int .i64 0, .string v]] w fun e w' => e = .returned (.string ⟨(RM.wr ⟨3, g, s, 0, v⟩).toArray⟩) ∧ Below w.heap.size w w' := by
  obtain ⟨i0, hi, hz0, hz1, hz2⟩ := info_parts info_u8
  have hb := RM.may_b h
  have hv := RM.may_v h
  have hg := h.1
  have hs := h.2.1
  simp only at hb hv hg hs
  obtain ⟨x, rfl⟩ : ∃ x : Nat, g = x := ⟨g.toNat, by omega⟩
  obtain ⟨y, rfl⟩ : ∃ y : Nat, s = y := ⟨s.toNat, by omega⟩
  have hB := Lib.hid (show Below w.heap.size w (w.alloc (.cells #[.int .u8 3, .int .i64 x, .int .i64 y, .int .i64 0, .string v] 26)) from (Below.refl _ _).alloc (Nat.le_refl _) _)
  have R0 := Lib.hid (Box.new w 26 #[.int .u8 3, .int .i64 x, .int .i64 y, .int .i64 0, .string v])
  have HW := Lib.hid (show NM.enc 3 ++ NM.enc x ++ NM.enc y ++ NM.text (RM.bsz v) = RM.wr ⟨3, x, y, 0, v⟩ by unfold RM.wr; simp)
  have hx : x ≤ 3 := by omega
  have hxm := Lib.hid (show (x : Int) % 256 = (x : Int) by omega)
  have hy : y ≤ 1099511627776 := by omega
  have hv4 : v.size ≤ 4096 := by omega
  have lt : (NM.text (RM.bsz v)).length ≤ 1100 := by unfold NM.text; rw [List.length_append, RM.bsz_len]; have := NM.enc_le v.size; omega
  have lx := NM.enc_le x
  have ly := NM.enc_le y
  have lk := NM.enc_le 3
  clear h hb hg hs hv
  go_enter Try.func22, Try.ntmps22
  go_upto_region 2 with (fail)
  try simp only [hxm.out]
  have T : Hid (Tx w ((w.alloc (.cells #[.int .u8 3, .int .i64 x, .int .i64 y, .int .i64 0, .string v] 26)).alloc (.cells #[.int .u8 3, .int .u8 x] 5)) (.slice (some ⟨w.heap.size + 1, 0, none⟩) 2 2) (NM.enc 3 ++ NM.enc x) #[.int .u8 3, .int .i64 x, .int .i64 y, .int .i64 0, .string v]) :=
    Lib.hid ⟨R0.out.alloc _, by have := own_two (w.alloc (.cells #[.int .u8 3, .int .i64 x, .int .i64 y, .int .i64 0, .string v] 26)) 3 x (by omega) (by omega); simpa using this, hB.out.alloc (by simp) _⟩
  generalize (w.alloc (.cells #[.int .u8 3, .int .i64 x, .int .i64 y, .int .i64 0, .string v] 26)).alloc (.cells #[.int .u8 3, .int .u8 x] 5) = w1 at T ⊢
  clear hB R0
  obtain ⟨c0, c1, c2, c3, c4⟩ := (show _ ∧ _ ∧ _ ∧ _ ∧ _ from ⟨T.out.1.cell 0, T.out.1.cell 1, T.out.1.cell 2, T.out.1.cell 3, T.out.1.cell 4⟩)
  simp at c0 c1 c2 c3 c4
  go_wp2_with fail
  clear c0 c1 c2 c3 c4
  refine (bytes_a y _ hy).mono ?_
  rintro e w4 ⟨A0, q0, rfl, hr, hb⟩
  replace T := Lib.hid (T.out.below hb); clear hb
  have hsz := T.out.1.lt
  have HR := Lib.hid hr; clear hr
  go_upto_region 3 with (at_builtin; refine wpList_append_rd _ rfl _ _ 38 rfl (w.heap.size + 1) 5 i0 (.int .u8 0) 1 Try.underlying38 hi hz0 hz1 hz2 rfl _ _ _ rfl T.out.2.1 A0 _ q0 (bc (NM.enc y)) rfl HR.out (bc_one _) (by unfold maxLen; simp only [List.length_append]; omega) (by simp only [List.length_append]; omega) hsz ?_; intro v0 w5 hown hgr hob)
  replace T := Lib.hid (T.out.more hgr hown rfl); clear hgr hown hob hsz HR
  obtain ⟨c0, c1, c2, c3, c4⟩ := (show _ ∧ _ ∧ _ ∧ _ ∧ _ from ⟨T.out.1.cell 0, T.out.1.cell 1, T.out.1.cell 2, T.out.1.cell 3, T.out.1.cell 4⟩)
  simp at c0 c1 c2 c3 c4
  go_wp2_with fail
  clear c0 c1 c2 c3 c4
  refine (tbytes_a v _ hv4).mono ?_
  rintro e w4 ⟨A1, q1, rfl, hr, hb⟩
  replace T := Lib.hid (T.out.below hb); clear hb
  have hsz := T.out.1.lt
  have HR := Lib.hid hr; clear hr
  go_upto_region 7 with (at_builtin; refine wpList_append_rd _ rfl _ _ 38 rfl (w.heap.size + 1) 5 i0 (.int .u8 0) 1 Try.underlying38 hi hz0 hz1 hz2 rfl _ _ _ rfl T.out.2.1 A1 _ q1 (bc (NM.text (RM.bsz v))) rfl HR.out (bc_one _) (by unfold maxLen; simp only [List.length_append]; omega) (by simp only [List.length_append]; omega) hsz ?_; intro v1 w5 hown hgr hob)
  replace T := Lib.hid (T.out.more hgr hown rfl); clear hgr hown hob hsz HR
  obtain ⟨c0, c1, c2, c3, c4⟩ := (show _ ∧ _ ∧ _ ∧ _ ∧ _ from ⟨T.out.1.cell 0, T.out.1.cell 1, T.out.1.cell 2, T.out.1.cell 3, T.out.1.cell 4⟩)
  simp at c0 c1 c2 c3 c4
  rw [HW.out] at T
  obtain ⟨A, q, rfl, _, _⟩ := own_slice T.out.2.1
  have hc := str_of (Rd.of_own T.out.2.1) q
  go_wp2_with fail
  go_ret
  exact ⟨rfl, T.out.2.2⟩

theorem rwrite_any {t : ByteArray} {e : Int} (k g s b : Int) (v : ByteArray) (h : RM.WrIs ⟨k, g, s, b, v⟩ t e) (hs : v.size ≤ maxLen) (w : World) :
    Calls Try.prog 11 #[.agg #[.int .u8 k, .int .i64 g, .int .i64 s, .int .i64 b, .string v]] w fun e' w' => e' = .returned (.tuple #[.string t, .int .i64 e]) ∧ Below w.heap.size w w' := by
  have HB := Lib.hid (show Below w.heap.size w (w.alloc (.cells #[.int .u8 k, .int .i64 g, .int .i64 s, .int .i64 b, .string v] 26)) from (Below.refl _ _).alloc (Nat.le_refl _) _)
  have R0 := Lib.hid (Box.new w 26 #[.int .u8 k, .int .i64 g, .int .i64 s, .int .i64 b, .string v])
  have CM := Lib.hid (fun w => rmay_any k g s b v w hs)
  rcases h with ⟨h, rfl, rfl⟩ | ⟨h, rfl, rfl⟩
  · have CT : Hid (∀ w, Calls Try.prog 22 #[.agg #[.int .u8 k, .int .i64 g, .int .i64 s, .int .i64 b, .string v]] w fun e w' => e = .returned (.string ⟨(RM.wr ⟨k, g, s, b, v⟩).toArray⟩) ∧ Below w.heap.size w w') := by
      refine Lib.hid fun w => ?_
      rcases h.2.2 with ⟨hk, hb, hv⟩ | ⟨hk, hb, hv⟩ | ⟨hk, hb, hv⟩ <;> simp only at hk hb hv
      · subst hk hv
        exact text1 g s b w h
      · subst hk
        exact text2 g s b v w h
      · subst hk hb
        exact text3 g s v w h
    have H := Lib.hid h
    clear h
    go_enter Try.func11, Try.ntmps11
    go_wp2_with fail
    refine (CM.out _).mono ?_
    rintro e w1 ⟨x, hx, rfl, hb1⟩
    obtain rfl : x = true := hx.2 H.out
    obtain ⟨c0, c1, c2, c3, c4⟩ := (show _ ∧ _ ∧ _ ∧ _ ∧ _ from (fun (b : Box w1 w.heap.size 26 #[.int .u8 k, .int .i64 g, .int .i64 s, .int .i64 b, .string v]) => ⟨b.cell 0, b.cell 1, b.cell 2, b.cell 3, b.cell 4⟩) (R0.out.below hb1 R0.out.lt))
    simp at c0 c1 c2 c3 c4
    have HB1 := Lib.hid (bmore HB.out hb1 (by simp))
    clear hb1 hx
    go_wp2_with fail
    refine (CT.out _).mono ?_
    rintro e w2 ⟨rfl, hb2⟩
    have HB2 := Lib.hid (bmore HB1.out hb2 (Nat.le_refl _))
    clear hb2 c0 c1 c2 c3 c4
    go_wp2_with fail
    go_ret2
    exact ⟨rfl, HB2.out⟩
  · have H := Lib.hid h
    clear h
    go_enter Try.func11, Try.ntmps11
    go_wp2_with fail
    refine (CM.out _).mono ?_
    rintro e w1 ⟨x, hx, rfl, hb1⟩
    obtain rfl : x = false := by cases x; rfl; exact absurd (hx.1 rfl) H.out
    have HB1 := Lib.hid (bmore HB.out hb1 (by simp))
    clear hb1 hx
    go_wp2_with fail
    go_ret2
    exact ⟨rfl, HB1.out⟩

end Go.Proofs.Ytoebokfhlbffaaa.RP
