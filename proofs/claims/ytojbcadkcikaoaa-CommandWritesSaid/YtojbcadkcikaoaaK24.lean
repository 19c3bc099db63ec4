/-
  Words for the document's own Text (towncrierref12): a text that grows behind a command's variable. Conditions: as each theorem says.
  The document's own Text (towncrierref12) of a command of kind 0 that may be. Conditions: as RowIs says.
  The document's own Text (towncrierref12) of a command of kind 1 that may be. Conditions: as RowIs says.
  The document's own Text (towncrierref12) of a command of kind 2 that may be. Conditions: as RowIs says.
  The document's own Text (towncrierref12) of a command of kind 3 that may be. Conditions: as RowIs says.
  The document's own Text (towncrierref12) of a command of kind 4 that may be. Conditions: as RowIs says.
  The document's own Text (towncrierref12) of a command of kind 5 that may be. Conditions: as RowIs says.
  The document's own Text (towncrierref12) of a command of kind 6 that may be. Conditions: as RowIs says.
  The document's own Text of any command that may be, and Write of any (towncrierref12). Conditions: as CmIs and CmFit say.
-/
import Derived.Test.YtojbcadkcikaoaaK15
import Derived.Test.YtojbcadkcikaoaaK04
import Derived.Deep.DeepCutAuto
import Derived.Test.YtojbcadkcikaoaaK17
namespace Go.Proofs.Ytojbcadkcikaoaa.CP
open Go.RowKit
open CM (Mg Cm)
set_option linter.unusedVariables false
set_option linter.unusedSimpArgs false

theorem str_of {w : World} {A : Option Addr} {n : Nat} {l : List UInt8} (h : Rd w A n (bc l)) (cap : Nat) : (convert 32 9 (.slice A n cap)).run Try.prog w = .ok (.string ⟨l.toArray⟩) w :=
  run_string_of _ _ _ 5 _ _ cap _ Try.underlying32 Try.underlying5 Try.underlying9 h
/-- the text so far: bytes of the call's own behind the command's variable -/
def Tx (w0 w : World) (v : Value) (pre : List UInt8) (R : Array Value) : Prop :=
  Box w w0.heap.size 27 R ∧ w.ownsRow (w0.heap.size + 1) 5 1 v pre.length (bc pre) ∧ Below w0.heap.size w0 w
theorem Tx.below {w0 w w' : World} {v : Value} {pre : List UInt8} {R : Array Value} (h : Tx w0 w v pre R) (hb : Below w.heap.size w w') : Tx w0 w' v pre R :=
  ⟨h.1.below hb h.1.lt, own_below h.2.1 hb, bmore h.2.2 hb (Nat.le_refl _)⟩
theorem rown_ge {w : World} {base : Nat} {e : TypeId} {v : Value} {n : Nat} {xs : List Value} (h : w.ownsRow base e 1 v n xs) : ∀ k, v.ownBlock = some k → base ≤ k := by
  intro k hk
  rcases h.2 with ⟨rfl, _⟩ | ⟨g', cap, cur, rfl, hb, _⟩
  · simp [Value.ownBlock] at hk
  · simp [Value.ownBlock] at hk; omega
theorem Tx.more {w0 w w' : World} {v v' : Value} {pre l : List UInt8} {n : Nat} {R : Array Value} (h : Tx w0 w v pre R) (hg : w.grownBy w' v.ownBlock) (ho : w'.ownsRow (w0.heap.size + 1) 5 1 v' (pre.length + n) (bc pre ++ bc l)) (hn : l.length = n) : Tx w0 w' v' (pre ++ l) R := by
  have hge := rown_ge h.2.1
  refine ⟨(hg.block _ h.1.lt (fun e => by have := hge _ e.symm; omega)).trans h.1, ?_, h.2.2.grown hg h.2.2.size (fun k hk => by have := hge k hk; omega)⟩
  rw [List.length_append, bc_append, hn]
  exact ho
theorem bytes_a (n : Nat) (w : World) (hn : n ≤ 1099511627776) :
    Calls Try.prog 54 #[.int .i64 n] w fun e w' => ∃ A c, e = .returned (.slice A (NM.enc n).length c) ∧ Rd w' A (NM.enc n).length (bc (NM.enc n)) ∧ Below w.heap.size w w' := by
  refine (refBytes_any n w hn).mono ?_
  rintro e w' ⟨v, rfl, ho, hb⟩
  obtain ⟨A, c, rfl, _, _⟩ := own_slice ho
  exact ⟨A, c, rfl, Rd.of_own ho, hb⟩
theorem tbytes_a (v : ByteArray) (w : World) (hn : v.size ≤ 4096) :
    Calls Try.prog 56 #[.string v] w fun e w' => ∃ A c, e = .returned (.slice A (NM.text (RM.bsz v)).length c) ∧ Rd w' A (NM.text (RM.bsz v)).length (bc (NM.text (RM.bsz v))) ∧ Below w.heap.size w w' := by
  refine (refTextBytes v w hn).mono ?_
  rintro e w' ⟨u, rfl, ho, hb⟩
  obtain ⟨A, c, rfl, _, _⟩ := own_slice ho
  exact ⟨A, c, rfl, Rd.of_own ho, hb⟩
theorem ibytes_a (P : Option Addr) (q : Nat) (zs : List Int) (w : World) (hr : Rd w P zs.length (ic zs)) (hn : zs.length ≤ 4096) (hok : ∀ z ∈ zs, 0 ≤ z ∧ z ≤ 1099511627776) :
    Calls Try.prog 55 #[.slice P zs.length q] w fun e w' => ∃ A c, e = .returned (.slice A (NM.ints (CM.nats zs)).length c) ∧ Rd w' A (NM.ints (CM.nats zs)).length (bc (NM.ints (CM.nats zs))) ∧ Below w.heap.size w w' := by
  refine (refIntsBytes P _ q zs w hr hn hok).mono ?_
  rintro e w' ⟨u, rfl, ho, hb⟩
  obtain ⟨A, c, rfl, _, _⟩ := own_slice ho
  exact ⟨A, c, rfl, Rd.of_own ho, hb⟩
theorem ints_len {zs : List Int} (h : zs.length ≤ 6) : (NM.ints (CM.nats zs)).length ≤ 200 := by
  unfold NM.ints
  rw [List.length_append]
  have h1 := NM.enc_le (CM.nats zs).length
  have h2 := NM.body_le (CM.nats zs)
  have h3 : (CM.nats zs).length = zs.length := by simp [CM.nats]
  omega
theorem text_len {v : ByteArray} (h : v.size ≤ 64) : (NM.text (RM.bsz v)).length ≤ 200 := by
  unfold NM.text
  rw [List.length_append, RM.bsz_len]
  have := NM.enc_le v.size
  omega
end Go.Proofs.Ytojbcadkcikaoaa.CP

namespace Go.Proofs.Ytojbcadkcikaoaa.CP
open Go.RowKit
open CM (Mg Cm)
set_option linter.unusedVariables false
set_option linter.unusedSimpArgs false
set_option maxRecDepth 100000

set_option maxHeartbeats 8000000 in
theorem text12_0 (mi mt : Int) (mg : List Int) (mk mb : ByteArray) (aid atm : Int) (ams : List Int) (atp awh an : Int) (A : Option Addr) (c : Nat) (P : Option Addr) (q : Nat) (w : World) (r1 : RowIs w A c mg) (r3 : RowIs w P q ams) (hm : CM.may ⟨0, ⟨mi, mg, mt, mk, mb⟩, aid, atm, ams, atp, awh, an⟩) :
    Calls Try.prog 37 #[.agg #[.int .u8 0, .int .i64 mi, .slice A mg.length c, .int .i64 mt, .string mk, .string mb, .int .i64 aid, .int .i64 atm, .slice P ams.length q, .int .i64 atp, .int .i64 awh, .int .i64 an]] w fun e w' => e = .returned (.string ⟨(CM.wr ⟨0, ⟨mi, mg, mt, mk, mb⟩, aid, atm, ams, atp, awh, an⟩).toArray⟩) ∧ Below w.heap.size w w' := by
  obtain ⟨i0, hi, hz0, hz1, hz2⟩ := info_parts info_u8
  have hw : CM.wr ⟨0, ⟨mi, mg, mt, mk, mb⟩, aid, atm, ams, atp, awh, an⟩ = NM.enc 0 := by unfold CM.wr CM.bod; simp
  have HW := Lib.hid hw.symm
  have lk := NM.enc_le 0
  have hb0 : Below w.heap.size w (w.alloc (.cells #[.int .u8 0, .int .i64 mi, .slice A mg.length c, .int .i64 mt, .string mk, .string mb, .int .i64 aid, .int .i64 atm, .slice P ams.length q, .int .i64 atp, .int .i64 awh, .int .i64 an] 27)) := (Below.refl _ _).alloc (Nat.le_refl _) _
  have HB := Lib.hid hb0
  have HX := Lib.hid (Box.new w 27 #[.int .u8 0, .int .i64 mi, .slice A mg.length c, .int .i64 mt, .string mk, .string mb, .int .i64 aid, .int .i64 atm, .slice P ams.length q, .int .i64 atp, .int .i64 awh, .int .i64 an])
  have hsz0 : (w.alloc (.cells #[.int .u8 0, .int .i64 mi, .slice A mg.length c, .int .i64 mt, .string mk, .string mb, .int .i64 aid, .int .i64 atm, .slice P ams.length q, .int .i64 atp, .int .i64 awh, .int .i64 an] 27)).heap.size = w.heap.size + 1 := by simp
  have HS := Lib.hid hsz0
  clear hb0 hsz0 hw hm r1 r3
  go_enter Try.func37, Try.ntmps37
  go_upto_region 1 with (fail)
  generalize w.alloc (.cells #[.int .u8 0, .int .i64 mi, .slice A mg.length c, .int .i64 mt, .string mk, .string mb, .int .i64 aid, .int .i64 atm, .slice P ams.length q, .int .i64 atp, .int .i64 awh, .int .i64 an] 27) = w1 at HX HB HS ⊢
  have c0 := HX.out.cell 0
  simp at c0
  go_wp2_with fail
  clear c0
  refine (refBytes_any 0 _ (by decide)).mono ?_
  rintro e w2 ⟨v, rfl, ho, hb⟩
  rw [HS.out] at ho
  have T : Hid (Tx w w2 v (NM.enc 0) #[.int .u8 0, .int .i64 mi, .slice A mg.length c, .int .i64 mt, .string mk, .string mb, .int .i64 aid, .int .i64 atm, .slice P ams.length q, .int .i64 atp, .int .i64 awh, .int .i64 an]) := Lib.hid ⟨HX.out.below hb (by rw [HS.out]; omega), ho, HB.out.trans (hb.mono HB.out.size)⟩
  clear ho hb HX HB HS
  obtain ⟨c0, c1, c2, c3, c4, c5, c6, c7, c8, c9, c10, c11⟩ := box_cm T.out.1
  rw [HW.out] at T
  obtain ⟨A9, q9, rfl, _, _⟩ := own_slice T.out.2.1
  have hc := str_of (Rd.of_own T.out.2.1) q9
  go_wp2_with fail
  go_ret
  exact ⟨rfl, T.out.2.2⟩
end Go.Proofs.Ytojbcadkcikaoaa.CP

namespace Go.Proofs.Ytojbcadkcikaoaa.CP
open Go.RowKit
open CM (Mg Cm)
set_option linter.unusedVariables false
set_option linter.unusedSimpArgs false
set_option maxRecDepth 100000

set_option maxHeartbeats 8000000 in
theorem text12_1 (mi mt : Int) (mg : List Int) (mk mb : ByteArray) (aid atm : Int) (ams : List Int) (atp awh an : Int) (A : Option Addr) (c : Nat) (P : Option Addr) (q : Nat) (w : World) (r1 : RowIs w A c mg) (r3 : RowIs w P q ams) (hm : CM.may ⟨1, ⟨mi, mg, mt, mk, mb⟩, aid, atm, ams, atp, awh, an⟩) :
    Calls Try.prog 37 #[.agg #[.int .u8 1, .int .i64 mi, .slice A mg.length c, .int .i64 mt, .string mk, .string mb, .int .i64 aid, .int .i64 atm, .slice P ams.length q, .int .i64 atp, .int .i64 awh, .int .i64 an]] w fun e w' => e = .returned (.string ⟨(CM.wr ⟨1, ⟨mi, mg, mt, mk, mb⟩, aid, atm, ams, atp, awh, an⟩).toArray⟩) ∧ Below w.heap.size w w' := by
  obtain ⟨i0, hi, hz0, hz1, hz2⟩ := info_parts info_u8
  have hq := may_iff1.1 hm
  have hmg := hq.1
  clear hq
  obtain ⟨g1, g2, g3⟩ := CM.gs_fit hmg
  obtain ⟨m1, m2, m3, m4, m5, m6⟩ := hmg
  unfold CM.idOk at m1
  simp only at m1 m4 m5 m6 g1 g2 g3
  have l1 : mg.length ≤ 6 := by have : (CM.nats mg).length = mg.length := by simp [CM.nats]
                                omega
  have l2 : ∀ z ∈ mg, 0 ≤ z ∧ z ≤ 1099511627776 := fun z hz => by have h1 := g1 z hz; have h2 := g3 z.toNat (List.mem_map.2 ⟨z, hz, rfl⟩); omega
  have t1 := text_len (v := mk) (by omega)
  have t2 := text_len (v := mb) (by omega)
  have t3 := ints_len l1
  obtain ⟨n0, rfl⟩ : ∃ n : Nat, mi = n := ⟨mi.toNat, by omega⟩
  have b0 : n0 ≤ 1099511627776 := by omega
  have d0 := NM.enc_le n0
  obtain ⟨n1, rfl⟩ : ∃ n : Nat, mt = n := ⟨mt.toNat, by omega⟩
  have b1 : n1 ≤ 1099511627776 := by omega
  have d1 := NM.enc_le n1
  have hw : CM.wr ⟨1, ⟨n0, mg, n1, mk, mb⟩, aid, atm, ams, atp, awh, an⟩ = NM.enc 1 ++ NM.enc n0 ++ NM.ints (CM.nats mg) ++ NM.enc n1 ++ NM.text (RM.bsz mk) ++ NM.text (RM.bsz mb) := by unfold CM.wr CM.bod; simp [List.append_assoc]
  have HW := Lib.hid hw.symm
  have lk := NM.enc_le 1
  have hb0 : Below w.heap.size w (w.alloc (.cells #[.int .u8 1, .int .i64 n0, .slice A mg.length c, .int .i64 n1, .string mk, .string mb, .int .i64 aid, .int .i64 atm, .slice P ams.length q, .int .i64 atp, .int .i64 awh, .int .i64 an] 27)) := (Below.refl _ _).alloc (Nat.le_refl _) _
  have D := Lib.hid (fun W (h : Below w.heap.size w W) => ibytes_a A c mg W (r1.below h).1 (by omega) l2)
  have HB := Lib.hid hb0
  have HX := Lib.hid (Box.new w 27 #[.int .u8 1, .int .i64 n0, .slice A mg.length c, .int .i64 n1, .string mk, .string mb, .int .i64 aid, .int .i64 atm, .slice P ams.length q, .int .i64 atp, .int .i64 awh, .int .i64 an])
  have hsz0 : (w.alloc (.cells #[.int .u8 1, .int .i64 n0, .slice A mg.length c, .int .i64 n1, .string mk, .string mb, .int .i64 aid, .int .i64 atm, .slice P ams.length q, .int .i64 atp, .int .i64 awh, .int .i64 an] 27)).heap.size = w.heap.size + 1 := by simp
  have HS := Lib.hid hsz0
  clear hb0 hsz0 hw hm r1 r3
  go_enter Try.func37, Try.ntmps37
  go_upto_region 1 with (fail)
  generalize w.alloc (.cells #[.int .u8 1, .int .i64 n0, .slice A mg.length c, .int .i64 n1, .string mk, .string mb, .int .i64 aid, .int .i64 atm, .slice P ams.length q, .int .i64 atp, .int .i64 awh, .int .i64 an] 27) = w1 at HX HB HS ⊢
  have c0 := HX.out.cell 0
  simp at c0
  go_wp2_with fail
  clear c0
  refine (refBytes_any 1 _ (by decide)).mono ?_
  rintro e w2 ⟨v, rfl, ho, hb⟩
  rw [HS.out] at ho
  have T : Hid (Tx w w2 v (NM.enc 1) #[.int .u8 1, .int .i64 n0, .slice A mg.length c, .int .i64 n1, .string mk, .string mb, .int .i64 aid, .int .i64 atm, .slice P ams.length q, .int .i64 atp, .int .i64 awh, .int .i64 an]) := Lib.hid ⟨HX.out.below hb (by rw [HS.out]; omega), ho, HB.out.trans (hb.mono HB.out.size)⟩
  clear ho hb HX HB HS
  obtain ⟨c0, c1, c2, c3, c4, c5, c6, c7, c8, c9, c10, c11⟩ := box_cm T.out.1
  go_wp2_with fail
  clear c0 c1 c2 c3 c4 c5 c6 c7 c8 c9 c10 c11
  refine (bytes_a n0 _ b0).mono ?_
  rintro e w4 ⟨A0, q0, rfl, hr, hb⟩
  replace T := Lib.hid (T.out.below hb); clear hb
  have hsz := T.out.1.lt
  have HR := Lib.hid hr; clear hr
  go_upto_region 5 with (at_builtin; refine wpList_append_rd _ rfl _ _ 32 rfl (w.heap.size + 1) 5 i0 (.int .u8 0) 1 Try.underlying32 hi hz0 hz1 hz2 rfl _ _ _ rfl T.out.2.1 A0 _ q0 (bc (NM.enc n0)) rfl HR.out (bc_one _) (by unfold maxLen; (try simp only [List.length_append]); omega) (by (try simp only [List.length_append]); omega) hsz ?_; intro v0 w5 hown hgr hob)
  replace T := Lib.hid (T.out.more hgr hown rfl); clear hgr hown hob hsz HR
  obtain ⟨c0, c1, c2, c3, c4, c5, c6, c7, c8, c9, c10, c11⟩ := box_cm T.out.1
  go_wp2_with fail
  clear c0 c1 c2 c3 c4 c5 c6 c7 c8 c9 c10 c11
  refine (D.out _ T.out.2.2).mono ?_
  rintro e w4 ⟨A1, q1, rfl, hr, hb⟩
  replace T := Lib.hid (T.out.below hb); clear hb
  have hsz := T.out.1.lt
  have HR := Lib.hid hr; clear hr
  go_upto_region 6 with (at_builtin; refine wpList_append_rd _ rfl _ _ 32 rfl (w.heap.size + 1) 5 i0 (.int .u8 0) 1 Try.underlying32 hi hz0 hz1 hz2 rfl _ _ _ rfl T.out.2.1 A1 _ q1 (bc (NM.ints (CM.nats mg))) rfl HR.out (bc_one _) (by unfold maxLen; (try simp only [List.length_append]); omega) (by (try simp only [List.length_append]); omega) hsz ?_; intro v1 w5 hown hgr hob)
  replace T := Lib.hid (T.out.more hgr hown rfl); clear hgr hown hob hsz HR
  obtain ⟨c0, c1, c2, c3, c4, c5, c6, c7, c8, c9, c10, c11⟩ := box_cm T.out.1
  go_wp2_with fail
  clear c0 c1 c2 c3 c4 c5 c6 c7 c8 c9 c10 c11
  refine (bytes_a n1 _ b1).mono ?_
  rintro e w4 ⟨A2, q2, rfl, hr, hb⟩
  replace T := Lib.hid (T.out.below hb); clear hb
  have hsz := T.out.1.lt
  have HR := Lib.hid hr; clear hr
  go_upto_region 7 with (at_builtin; refine wpList_append_rd _ rfl _ _ 32 rfl (w.heap.size + 1) 5 i0 (.int .u8 0) 1 Try.underlying32 hi hz0 hz1 hz2 rfl _ _ _ rfl T.out.2.1 A2 _ q2 (bc (NM.enc n1)) rfl HR.out (bc_one _) (by unfold maxLen; (try simp only [List.length_append]); omega) (by (try simp only [List.length_append]); omega) hsz ?_; intro v2 w5 hown hgr hob)
  replace T := Lib.hid (T.out.more hgr hown rfl); clear hgr hown hob hsz HR
  obtain ⟨c0, c1, c2, c3, c4, c5, c6, c7, c8, c9, c10, c11⟩ := box_cm T.out.1
  go_wp2_with fail
  clear c0 c1 c2 c3 c4 c5 c6 c7 c8 c9 c10 c11
  refine (tbytes_a mk _ (by omega)).mono ?_
  rintro e w4 ⟨A3, q3, rfl, hr, hb⟩
  replace T := Lib.hid (T.out.below hb); clear hb
  have hsz := T.out.1.lt
  have HR := Lib.hid hr; clear hr
  go_upto_region 8 with (at_builtin; refine wpList_append_rd _ rfl _ _ 32 rfl (w.heap.size + 1) 5 i0 (.int .u8 0) 1 Try.underlying32 hi hz0 hz1 hz2 rfl _ _ _ rfl T.out.2.1 A3 _ q3 (bc (NM.text (RM.bsz mk))) rfl HR.out (bc_one _) (by unfold maxLen; (try simp only [List.length_append]); omega) (by (try simp only [List.length_append]); omega) hsz ?_; intro v3 w5 hown hgr hob)
  replace T := Lib.hid (T.out.more hgr hown rfl); clear hgr hown hob hsz HR
  obtain ⟨c0, c1, c2, c3, c4, c5, c6, c7, c8, c9, c10, c11⟩ := box_cm T.out.1
  go_wp2_with fail
  clear c0 c1 c2 c3 c4 c5 c6 c7 c8 c9 c10 c11
  refine (tbytes_a mb _ (by omega)).mono ?_
  rintro e w4 ⟨A4, q4, rfl, hr, hb⟩
  replace T := Lib.hid (T.out.below hb); clear hb
  have hsz := T.out.1.lt
  have HR := Lib.hid hr; clear hr
  go_upto_region 22 with (at_builtin; refine wpList_append_rd _ rfl _ _ 32 rfl (w.heap.size + 1) 5 i0 (.int .u8 0) 1 Try.underlying32 hi hz0 hz1 hz2 rfl _ _ _ rfl T.out.2.1 A4 _ q4 (bc (NM.text (RM.bsz mb))) rfl HR.out (bc_one _) (by unfold maxLen; (try simp only [List.length_append]); omega) (by (try simp only [List.length_append]); omega) hsz ?_; intro v4 w5 hown hgr hob)
  replace T := Lib.hid (T.out.more hgr hown rfl); clear hgr hown hob hsz HR
  obtain ⟨c0, c1, c2, c3, c4, c5, c6, c7, c8, c9, c10, c11⟩ := box_cm T.out.1
  rw [HW.out] at T
  obtain ⟨A9, q9, rfl, _, _⟩ := own_slice T.out.2.1
  have hc := str_of (Rd.of_own T.out.2.1) q9
  go_wp2_with fail
  go_ret
  exact ⟨rfl, T.out.2.2⟩
end Go.Proofs.Ytojbcadkcikaoaa.CP

namespace Go.Proofs.Ytojbcadkcikaoaa.CP
open Go.RowKit
open CM (Mg Cm)
set_option linter.unusedVariables false
set_option linter.unusedSimpArgs false
set_option maxRecDepth 100000

set_option maxHeartbeats 8000000 in
theorem text12_2 (mi mt : Int) (mg : List Int) (mk mb : ByteArray) (aid atm : Int) (ams : List Int) (atp awh an : Int) (A : Option Addr) (c : Nat) (P : Option Addr) (q : Nat) (w : World) (r1 : RowIs w A c mg) (r3 : RowIs w P q ams) (hm : CM.may ⟨2, ⟨mi, mg, mt, mk, mb⟩, aid, atm, ams, atp, awh, an⟩) :
    Calls Try.prog 37 #[.agg #[.int .u8 2, .int .i64 mi, .slice A mg.length c, .int .i64 mt, .string mk, .string mb, .int .i64 aid, .int .i64 atm, .slice P ams.length q, .int .i64 atp, .int .i64 awh, .int .i64 an]] w fun e w' => e = .returned (.string ⟨(CM.wr ⟨2, ⟨mi, mg, mt, mk, mb⟩, aid, atm, ams, atp, awh, an⟩).toArray⟩) ∧ Below w.heap.size w w' := by
  obtain ⟨i0, hi, hz0, hz1, hz2⟩ := info_parts info_u8
  have hq := may_iff2.1 hm
  have h1 := hq.2.1
  have h2 := hq.2.2.1
  clear hq
  unfold CM.idOk at h1
  obtain ⟨n0, rfl⟩ : ∃ n : Nat, aid = n := ⟨aid.toNat, by omega⟩
  have b0 : n0 ≤ 1099511627776 := by omega
  have d0 := NM.enc_le n0
  obtain ⟨n1, rfl⟩ : ∃ n : Nat, atm = n := ⟨atm.toNat, by omega⟩
  have b1 : n1 ≤ 1099511627776 := by omega
  have d1 := NM.enc_le n1
  have hw : CM.wr ⟨2, ⟨mi, mg, mt, mk, mb⟩, n0, n1, ams, atp, awh, an⟩ = NM.enc 2 ++ NM.enc n0 ++ NM.enc n1 := by unfold CM.wr CM.bod; simp [List.append_assoc]
  have HW := Lib.hid hw.symm
  have lk := NM.enc_le 2
  have hb0 : Below w.heap.size w (w.alloc (.cells #[.int .u8 2, .int .i64 mi, .slice A mg.length c, .int .i64 mt, .string mk, .string mb, .int .i64 n0, .int .i64 n1, .slice P ams.length q, .int .i64 atp, .int .i64 awh, .int .i64 an] 27)) := (Below.refl _ _).alloc (Nat.le_refl _) _
  have HB := Lib.hid hb0
  have HX := Lib.hid (Box.new w 27 #[.int .u8 2, .int .i64 mi, .slice A mg.length c, .int .i64 mt, .string mk, .string mb, .int .i64 n0, .int .i64 n1, .slice P ams.length q, .int .i64 atp, .int .i64 awh, .int .i64 an])
  have hsz0 : (w.alloc (.cells #[.int .u8 2, .int .i64 mi, .slice A mg.length c, .int .i64 mt, .string mk, .string mb, .int .i64 n0, .int .i64 n1, .slice P ams.length q, .int .i64 atp, .int .i64 awh, .int .i64 an] 27)).heap.size = w.heap.size + 1 := by simp
  have HS := Lib.hid hsz0
  clear hb0 hsz0 hw hm r1 r3
  go_enter Try.func37, Try.ntmps37
  go_upto_region 1 with (fail)
  generalize w.alloc (.cells #[.int .u8 2, .int .i64 mi, .slice A mg.length c, .int .i64 mt, .string mk, .string mb, .int .i64 n0, .int .i64 n1, .slice P ams.length q, .int .i64 atp, .int .i64 awh, .int .i64 an] 27) = w1 at HX HB HS ⊢
  have c0 := HX.out.cell 0
  simp at c0
  go_wp2_with fail
  clear c0
  refine (refBytes_any 2 _ (by decide)).mono ?_
  rintro e w2 ⟨v, rfl, ho, hb⟩
  rw [HS.out] at ho
  have T : Hid (Tx w w2 v (NM.enc 2) #[.int .u8 2, .int .i64 mi, .slice A mg.length c, .int .i64 mt, .string mk, .string mb, .int .i64 n0, .int .i64 n1, .slice P ams.length q, .int .i64 atp, .int .i64 awh, .int .i64 an]) := Lib.hid ⟨HX.out.below hb (by rw [HS.out]; omega), ho, HB.out.trans (hb.mono HB.out.size)⟩
  clear ho hb HX HB HS
  obtain ⟨c0, c1, c2, c3, c4, c5, c6, c7, c8, c9, c10, c11⟩ := box_cm T.out.1
  go_wp2_with fail
  clear c0 c1 c2 c3 c4 c5 c6 c7 c8 c9 c10 c11
  refine (bytes_a n0 _ b0).mono ?_
  rintro e w4 ⟨A0, q0, rfl, hr, hb⟩
  replace T := Lib.hid (T.out.below hb); clear hb
  have hsz := T.out.1.lt
  have HR := Lib.hid hr; clear hr
  go_upto_region 11 with (at_builtin; refine wpList_append_rd _ rfl _ _ 32 rfl (w.heap.size + 1) 5 i0 (.int .u8 0) 1 Try.underlying32 hi hz0 hz1 hz2 rfl _ _ _ rfl T.out.2.1 A0 _ q0 (bc (NM.enc n0)) rfl HR.out (bc_one _) (by unfold maxLen; (try simp only [List.length_append]); omega) (by (try simp only [List.length_append]); omega) hsz ?_; intro v0 w5 hown hgr hob)
  replace T := Lib.hid (T.out.more hgr hown rfl); clear hgr hown hob hsz HR
  obtain ⟨c0, c1, c2, c3, c4, c5, c6, c7, c8, c9, c10, c11⟩ := box_cm T.out.1
  go_wp2_with fail
  clear c0 c1 c2 c3 c4 c5 c6 c7 c8 c9 c10 c11
  refine (bytes_a n1 _ b1).mono ?_
  rintro e w4 ⟨A1, q1, rfl, hr, hb⟩
  replace T := Lib.hid (T.out.below hb); clear hb
  have hsz := T.out.1.lt
  have HR := Lib.hid hr; clear hr
  go_upto_region 22 with (at_builtin; refine wpList_append_rd _ rfl _ _ 32 rfl (w.heap.size + 1) 5 i0 (.int .u8 0) 1 Try.underlying32 hi hz0 hz1 hz2 rfl _ _ _ rfl T.out.2.1 A1 _ q1 (bc (NM.enc n1)) rfl HR.out (bc_one _) (by unfold maxLen; (try simp only [List.length_append]); omega) (by (try simp only [List.length_append]); omega) hsz ?_; intro v1 w5 hown hgr hob)
  replace T := Lib.hid (T.out.more hgr hown rfl); clear hgr hown hob hsz HR
  obtain ⟨c0, c1, c2, c3, c4, c5, c6, c7, c8, c9, c10, c11⟩ := box_cm T.out.1
  rw [HW.out] at T
  obtain ⟨A9, q9, rfl, _, _⟩ := own_slice T.out.2.1
  have hc := str_of (Rd.of_own T.out.2.1) q9
  go_wp2_with fail
  go_ret
  exact ⟨rfl, T.out.2.2⟩
end Go.Proofs.Ytojbcadkcikaoaa.CP

namespace Go.Proofs.Ytojbcadkcikaoaa.CP
open Go.RowKit
open CM (Mg Cm)
set_option linter.unusedVariables false
set_option linter.unusedSimpArgs false
set_option maxRecDepth 100000

set_option maxHeartbeats 8000000 in
theorem text12_3 (mi mt : Int) (mg : List Int) (mk mb : ByteArray) (aid atm : Int) (ams : List Int) (atp awh an : Int) (A : Option Addr) (c : Nat) (P : Option Addr) (q : Nat) (w : World) (r1 : RowIs w A c mg) (r3 : RowIs w P q ams) (hm : CM.may ⟨3, ⟨mi, mg, mt, mk, mb⟩, aid, atm, ams, atp, awh, an⟩) :
    Calls Try.prog 37 #[.agg #[.int .u8 3, .int .i64 mi, .slice A mg.length c, .int .i64 mt, .string mk, .string mb, .int .i64 aid, .int .i64 atm, .slice P ams.length q, .int .i64 atp, .int .i64 awh, .int .i64 an]] w fun e w' => e = .returned (.string ⟨(CM.wr ⟨3, ⟨mi, mg, mt, mk, mb⟩, aid, atm, ams, atp, awh, an⟩).toArray⟩) ∧ Below w.heap.size w w' := by
  obtain ⟨i0, hi, hz0, hz1, hz2⟩ := info_parts info_u8
  have hq := may_iff3.1 hm
  have hch := hq.2.2.2.1
  clear hq
  obtain ⟨g1, g2, g3⟩ := CM.ms_fit hch
  have l1 : ams.length ≤ 6 := by have : (CM.nats ams).length = ams.length := by simp [CM.nats]
                                 omega
  have l2 : ∀ z ∈ ams, 0 ≤ z ∧ z ≤ 1099511627776 := fun z hz => by have h1 := g1 z hz; have h2 := g3 z.toNat (List.mem_map.2 ⟨z, hz, rfl⟩); omega
  have t3 := ints_len l1
  have hw : CM.wr ⟨3, ⟨mi, mg, mt, mk, mb⟩, aid, atm, ams, atp, awh, an⟩ = NM.enc 3 ++ NM.ints (CM.nats ams) := by unfold CM.wr CM.bod; simp [List.append_assoc]
  have HW := Lib.hid hw.symm
  have lk := NM.enc_le 3
  have hb0 : Below w.heap.size w (w.alloc (.cells #[.int .u8 3, .int .i64 mi, .slice A mg.length c, .int .i64 mt, .string mk, .string mb, .int .i64 aid, .int .i64 atm, .slice P ams.length q, .int .i64 atp, .int .i64 awh, .int .i64 an] 27)) := (Below.refl _ _).alloc (Nat.le_refl _) _
  have D := Lib.hid (fun W (h : Below w.heap.size w W) => ibytes_a P q ams W (r3.below h).1 (by omega) l2)
  have HB := Lib.hid hb0
  have HX := Lib.hid (Box.new w 27 #[.int .u8 3, .int .i64 mi, .slice A mg.length c, .int .i64 mt, .string mk, .string mb, .int .i64 aid, .int .i64 atm, .slice P ams.length q, .int .i64 atp, .int .i64 awh, .int .i64 an])
  have hsz0 : (w.alloc (.cells #[.int .u8 3, .int .i64 mi, .slice A mg.length c, .int .i64 mt, .string mk, .string mb, .int .i64 aid, .int .i64 atm, .slice P ams.length q, .int .i64 atp, .int .i64 awh, .int .i64 an] 27)).heap.size = w.heap.size + 1 := by simp
  have HS := Lib.hid hsz0
  clear hb0 hsz0 hw hm r1 r3
  go_enter Try.func37, Try.ntmps37
  go_upto_region 1 with (fail)
  generalize w.alloc (.cells #[.int .u8 3, .int .i64 mi, .slice A mg.length c, .int .i64 mt, .string mk, .string mb, .int .i64 aid, .int .i64 atm, .slice P ams.length q, .int .i64 atp, .int .i64 awh, .int .i64 an] 27) = w1 at HX HB HS ⊢
  have c0 := HX.out.cell 0
  simp at c0
  go_wp2_with fail
  clear c0
  refine (refBytes_any 3 _ (by decide)).mono ?_
  rintro e w2 ⟨v, rfl, ho, hb⟩
  rw [HS.out] at ho
  have T : Hid (Tx w w2 v (NM.enc 3) #[.int .u8 3, .int .i64 mi, .slice A mg.length c, .int .i64 mt, .string mk, .string mb, .int .i64 aid, .int .i64 atm, .slice P ams.length q, .int .i64 atp, .int .i64 awh, .int .i64 an]) := Lib.hid ⟨HX.out.below hb (by rw [HS.out]; omega), ho, HB.out.trans (hb.mono HB.out.size)⟩
  clear ho hb HX HB HS
  obtain ⟨c0, c1, c2, c3, c4, c5, c6, c7, c8, c9, c10, c11⟩ := box_cm T.out.1
  go_wp2_with fail
  clear c0 c1 c2 c3 c4 c5 c6 c7 c8 c9 c10 c11
  refine (D.out _ T.out.2.2).mono ?_
  rintro e w4 ⟨A0, q0, rfl, hr, hb⟩
  replace T := Lib.hid (T.out.below hb); clear hb
  have hsz := T.out.1.lt
  have HR := Lib.hid hr; clear hr
  go_upto_region 22 with (at_builtin; refine wpList_append_rd _ rfl _ _ 32 rfl (w.heap.size + 1) 5 i0 (.int .u8 0) 1 Try.underlying32 hi hz0 hz1 hz2 rfl _ _ _ rfl T.out.2.1 A0 _ q0 (bc (NM.ints (CM.nats ams))) rfl HR.out (bc_one _) (by unfold maxLen; (try simp only [List.length_append]); omega) (by (try simp only [List.length_append]); omega) hsz ?_; intro v0 w5 hown hgr hob)
  replace T := Lib.hid (T.out.more hgr hown rfl); clear hgr hown hob hsz HR
  obtain ⟨c0, c1, c2, c3, c4, c5, c6, c7, c8, c9, c10, c11⟩ := box_cm T.out.1
  rw [HW.out] at T
  obtain ⟨A9, q9, rfl, _, _⟩ := own_slice T.out.2.1
  have hc := str_of (Rd.of_own T.out.2.1) q9
  go_wp2_with fail
  go_ret
  exact ⟨rfl, T.out.2.2⟩
end Go.Proofs.Ytojbcadkcikaoaa.CP

namespace Go.Proofs.Ytojbcadkcikaoaa.CP
open Go.RowKit
open CM (Mg Cm)
set_option linter.unusedVariables false
set_option linter.unusedSimpArgs false
set_option maxRecDepth 100000

set_option maxHeartbeats 8000000 in
theorem text12_4 (mi mt : Int) (mg : List Int) (mk mb : ByteArray) (aid atm : Int) (ams : List Int) (atp awh an : Int) (A : Option Addr) (c : Nat) (P : Option Addr) (q : Nat) (w : World) (r1 : RowIs w A c mg) (r3 : RowIs w P q ams) (hm : CM.may ⟨4, ⟨mi, mg, mt, mk, mb⟩, aid, atm, ams, atp, awh, an⟩) :
    Calls Try.prog 37 #[.agg #[.int .u8 4, .int .i64 mi, .slice A mg.length c, .int .i64 mt, .string mk, .string mb, .int .i64 aid, .int .i64 atm, .slice P ams.length q, .int .i64 atp, .int .i64 awh, .int .i64 an]] w fun e w' => e = .returned (.string ⟨(CM.wr ⟨4, ⟨mi, mg, mt, mk, mb⟩, aid, atm, ams, atp, awh, an⟩).toArray⟩) ∧ Below w.heap.size w w' := by
  obtain ⟨i0, hi, hz0, hz1, hz2⟩ := info_parts info_u8
  have hq := may_iff4.1 hm
  have h1 := hq.2.1
  have h2 := hq.2.2.2.2.1
  have h3 := hq.2.2.2.2.2.1
  have h4 := hq.2.2.2.2.2.2
  clear hq
  unfold CM.idOk at h1
  obtain ⟨n0, rfl⟩ : ∃ n : Nat, aid = n := ⟨aid.toNat, by omega⟩
  have b0 : n0 ≤ 1099511627776 := by omega
  have d0 := NM.enc_le n0
  obtain ⟨n1, rfl⟩ : ∃ n : Nat, atp = n := ⟨atp.toNat, by omega⟩
  have b1 : n1 ≤ 1099511627776 := by omega
  have d1 := NM.enc_le n1
  obtain ⟨n2, rfl⟩ : ∃ n : Nat, awh = n := ⟨awh.toNat, by omega⟩
  have b2 : n2 ≤ 1099511627776 := by omega
  have d2 := NM.enc_le n2
  obtain ⟨n3, rfl⟩ : ∃ n : Nat, an = n := ⟨an.toNat, by omega⟩
  have b3 : n3 ≤ 1099511627776 := by omega
  have d3 := NM.enc_le n3
  have hw : CM.wr ⟨4, ⟨mi, mg, mt, mk, mb⟩, n0, atm, ams, n1, n2, n3⟩ = NM.enc 4 ++ NM.enc n0 ++ NM.enc n1 ++ NM.enc n2 ++ NM.enc n3 := by unfold CM.wr CM.bod; simp [List.append_assoc]
  have HW := Lib.hid hw.symm
  have lk := NM.enc_le 4
  have hb0 : Below w.heap.size w (w.alloc (.cells #[.int .u8 4, .int .i64 mi, .slice A mg.length c, .int .i64 mt, .string mk, .string mb, .int .i64 n0, .int .i64 atm, .slice P ams.length q, .int .i64 n1, .int .i64 n2, .int .i64 n3] 27)) := (Below.refl _ _).alloc (Nat.le_refl _) _
  have HB := Lib.hid hb0
  have HX := Lib.hid (Box.new w 27 #[.int .u8 4, .int .i64 mi, .slice A mg.length c, .int .i64 mt, .string mk, .string mb, .int .i64 n0, .int .i64 atm, .slice P ams.length q, .int .i64 n1, .int .i64 n2, .int .i64 n3])
  have hsz0 : (w.alloc (.cells #[.int .u8 4, .int .i64 mi, .slice A mg.length c, .int .i64 mt, .string mk, .string mb, .int .i64 n0, .int .i64 atm, .slice P ams.length q, .int .i64 n1, .int .i64 n2, .int .i64 n3] 27)).heap.size = w.heap.size + 1 := by simp
  have HS := Lib.hid hsz0
  clear hb0 hsz0 hw hm r1 r3
  go_enter Try.func37, Try.ntmps37
  go_upto_region 1 with (fail)
  generalize w.alloc (.cells #[.int .u8 4, .int .i64 mi, .slice A mg.length c, .int .i64 mt, .string mk, .string mb, .int .i64 n0, .int .i64 atm, .slice P ams.length q, .int .i64 n1, .int .i64 n2, .int .i64 n3] 27) = w1 at HX HB HS ⊢
  have c0 := HX.out.cell 0
  simp at c0
  go_wp2_with fail
  clear c0
  refine (refBytes_any 4 _ (by decide)).mono ?_
  rintro e w2 ⟨v, rfl, ho, hb⟩
  rw [HS.out] at ho
  have T : Hid (Tx w w2 v (NM.enc 4) #[.int .u8 4, .int .i64 mi, .slice A mg.length c, .int .i64 mt, .string mk, .string mb, .int .i64 n0, .int .i64 atm, .slice P ams.length q, .int .i64 n1, .int .i64 n2, .int .i64 n3]) := Lib.hid ⟨HX.out.below hb (by rw [HS.out]; omega), ho, HB.out.trans (hb.mono HB.out.size)⟩
  clear ho hb HX HB HS
  obtain ⟨c0, c1, c2, c3, c4, c5, c6, c7, c8, c9, c10, c11⟩ := box_cm T.out.1
  go_wp2_with fail
  clear c0 c1 c2 c3 c4 c5 c6 c7 c8 c9 c10 c11
  refine (bytes_a n0 _ b0).mono ?_
  rintro e w4 ⟨A0, q0, rfl, hr, hb⟩
  replace T := Lib.hid (T.out.below hb); clear hb
  have hsz := T.out.1.lt
  have HR := Lib.hid hr; clear hr
  go_upto_region 18 with (at_builtin; refine wpList_append_rd _ rfl _ _ 32 rfl (w.heap.size + 1) 5 i0 (.int .u8 0) 1 Try.underlying32 hi hz0 hz1 hz2 rfl _ _ _ rfl T.out.2.1 A0 _ q0 (bc (NM.enc n0)) rfl HR.out (bc_one _) (by unfold maxLen; (try simp only [List.length_append]); omega) (by (try simp only [List.length_append]); omega) hsz ?_; intro v0 w5 hown hgr hob)
  replace T := Lib.hid (T.out.more hgr hown rfl); clear hgr hown hob hsz HR
  obtain ⟨c0, c1, c2, c3, c4, c5, c6, c7, c8, c9, c10, c11⟩ := box_cm T.out.1
  go_wp2_with fail
  clear c0 c1 c2 c3 c4 c5 c6 c7 c8 c9 c10 c11
  refine (bytes_a n1 _ b1).mono ?_
  rintro e w4 ⟨A1, q1, rfl, hr, hb⟩
  replace T := Lib.hid (T.out.below hb); clear hb
  have hsz := T.out.1.lt
  have HR := Lib.hid hr; clear hr
  go_upto_region 19 with (at_builtin; refine wpList_append_rd _ rfl _ _ 32 rfl (w.heap.size + 1) 5 i0 (.int .u8 0) 1 Try.underlying32 hi hz0 hz1 hz2 rfl _ _ _ rfl T.out.2.1 A1 _ q1 (bc (NM.enc n1)) rfl HR.out (bc_one _) (by unfold maxLen; (try simp only [List.length_append]); omega) (by (try simp only [List.length_append]); omega) hsz ?_; intro v1 w5 hown hgr hob)
  replace T := Lib.hid (T.out.more hgr hown rfl); clear hgr hown hob hsz HR
  obtain ⟨c0, c1, c2, c3, c4, c5, c6, c7, c8, c9, c10, c11⟩ := box_cm T.out.1
  go_wp2_with fail
  clear c0 c1 c2 c3 c4 c5 c6 c7 c8 c9 c10 c11
  refine (bytes_a n2 _ b2).mono ?_
  rintro e w4 ⟨A2, q2, rfl, hr, hb⟩
  replace T := Lib.hid (T.out.below hb); clear hb
  have hsz := T.out.1.lt
  have HR := Lib.hid hr; clear hr
  go_upto_region 21 with (at_builtin; refine wpList_append_rd _ rfl _ _ 32 rfl (w.heap.size + 1) 5 i0 (.int .u8 0) 1 Try.underlying32 hi hz0 hz1 hz2 rfl _ _ _ rfl T.out.2.1 A2 _ q2 (bc (NM.enc n2)) rfl HR.out (bc_one _) (by unfold maxLen; (try simp only [List.length_append]); omega) (by (try simp only [List.length_append]); omega) hsz ?_; intro v2 w5 hown hgr hob)
  replace T := Lib.hid (T.out.more hgr hown rfl); clear hgr hown hob hsz HR
  obtain ⟨c0, c1, c2, c3, c4, c5, c6, c7, c8, c9, c10, c11⟩ := box_cm T.out.1
  go_wp2_with fail
  clear c0 c1 c2 c3 c4 c5 c6 c7 c8 c9 c10 c11
  refine (bytes_a n3 _ b3).mono ?_
  rintro e w4 ⟨A3, q3, rfl, hr, hb⟩
  replace T := Lib.hid (T.out.below hb); clear hb
  have hsz := T.out.1.lt
  have HR := Lib.hid hr; clear hr
  go_upto_region 22 with (at_builtin; refine wpList_append_rd _ rfl _ _ 32 rfl (w.heap.size + 1) 5 i0 (.int .u8 0) 1 Try.underlying32 hi hz0 hz1 hz2 rfl _ _ _ rfl T.out.2.1 A3 _ q3 (bc (NM.enc n3)) rfl HR.out (bc_one _) (by unfold maxLen; (try simp only [List.length_append]); omega) (by (try simp only [List.length_append]); omega) hsz ?_; intro v3 w5 hown hgr hob)
  replace T := Lib.hid (T.out.more hgr hown rfl); clear hgr hown hob hsz HR
  obtain ⟨c0, c1, c2, c3, c4, c5, c6, c7, c8, c9, c10, c11⟩ := box_cm T.out.1
  rw [HW.out] at T
  obtain ⟨A9, q9, rfl, _, _⟩ := own_slice T.out.2.1
  have hc := str_of (Rd.of_own T.out.2.1) q9
  go_wp2_with fail
  go_ret
  exact ⟨rfl, T.out.2.2⟩
end Go.Proofs.Ytojbcadkcikaoaa.CP

namespace Go.Proofs.Ytojbcadkcikaoaa.CP
open Go.RowKit
open CM (Mg Cm)
set_option linter.unusedVariables false
set_option linter.unusedSimpArgs false
set_option maxRecDepth 100000

set_option maxHeartbeats 8000000 in
theorem text12_5 (mi mt : Int) (mg : List Int) (mk mb : ByteArray) (aid atm : Int) (ams : List Int) (atp awh an : Int) (A : Option Addr) (c : Nat) (P : Option Addr) (q : Nat) (w : World) (r1 : RowIs w A c mg) (r3 : RowIs w P q ams) (hm : CM.may ⟨5, ⟨mi, mg, mt, mk, mb⟩, aid, atm, ams, atp, awh, an⟩) :
    Calls Try.prog 37 #[.agg #[.int .u8 5, .int .i64 mi, .slice A mg.length c, .int .i64 mt, .string mk, .string mb, .int .i64 aid, .int .i64 atm, .slice P ams.length q, .int .i64 atp, .int .i64 awh, .int .i64 an]] w fun e w' => e = .returned (.string ⟨(CM.wr ⟨5, ⟨mi, mg, mt, mk, mb⟩, aid, atm, ams, atp, awh, an⟩).toArray⟩) ∧ Below w.heap.size w w' := by
  obtain ⟨i0, hi, hz0, hz1, hz2⟩ := info_parts info_u8
  have hq := may_iff5.1 hm
  have h1 := hq.2.1
  have h2 := hq.2.2.2.2.1
  have h3 := hq.2.2.2.2.2.1
  clear hq
  unfold CM.idOk at h1
  obtain ⟨n0, rfl⟩ : ∃ n : Nat, aid = n := ⟨aid.toNat, by omega⟩
  have b0 : n0 ≤ 1099511627776 := by omega
  have d0 := NM.enc_le n0
  obtain ⟨n1, rfl⟩ : ∃ n : Nat, atp = n := ⟨atp.toNat, by omega⟩
  have b1 : n1 ≤ 1099511627776 := by omega
  have d1 := NM.enc_le n1
  obtain ⟨n2, rfl⟩ : ∃ n : Nat, an = n := ⟨an.toNat, by omega⟩
  have b2 : n2 ≤ 1099511627776 := by omega
  have d2 := NM.enc_le n2
  have hw : CM.wr ⟨5, ⟨mi, mg, mt, mk, mb⟩, n0, atm, ams, n1, awh, n2⟩ = NM.enc 5 ++ NM.enc n0 ++ NM.enc n1 ++ NM.enc n2 := by unfold CM.wr CM.bod; simp [List.append_assoc]
  have HW := Lib.hid hw.symm
  have lk := NM.enc_le 5
  have hb0 : Below w.heap.size w (w.alloc (.cells #[.int .u8 5, .int .i64 mi, .slice A mg.length c, .int .i64 mt, .string mk, .string mb, .int .i64 n0, .int .i64 atm, .slice P ams.length q, .int .i64 n1, .int .i64 awh, .int .i64 n2] 27)) := (Below.refl _ _).alloc (Nat.le_refl _) _
  have HB := Lib.hid hb0
  have HX := Lib.hid (Box.new w 27 #[.int .u8 5, .int .i64 mi, .slice A mg.length c, .int .i64 mt, .string mk, .string mb, .int .i64 n0, .int .i64 atm, .slice P ams.length q, .int .i64 n1, .int .i64 awh, .int .i64 n2])
  have hsz0 : (w.alloc (.cells #[.int .u8 5, .int .i64 mi, .slice A mg.length c, .int .i64 mt, .string mk, .string mb, .int .i64 n0, .int .i64 atm, .slice P ams.length q, .int .i64 n1, .int .i64 awh, .int .i64 n2] 27)).heap.size = w.heap.size + 1 := by simp
  have HS := Lib.hid hsz0
  clear hb0 hsz0 hw hm r1 r3
  go_enter Try.func37, Try.ntmps37
  go_upto_region 1 with (fail)
  generalize w.alloc (.cells #[.int .u8 5, .int .i64 mi, .slice A mg.length c, .int .i64 mt, .string mk, .string mb, .int .i64 n0, .int .i64 atm, .slice P ams.length q, .int .i64 n1, .int .i64 awh, .int .i64 n2] 27) = w1 at HX HB HS ⊢
  have c0 := HX.out.cell 0
  simp at c0
  go_wp2_with fail
  clear c0
  refine (refBytes_any 5 _ (by decide)).mono ?_
  rintro e w2 ⟨v, rfl, ho, hb⟩
  rw [HS.out] at ho
  have T : Hid (Tx w w2 v (NM.enc 5) #[.int .u8 5, .int .i64 mi, .slice A mg.length c, .int .i64 mt, .string mk, .string mb, .int .i64 n0, .int .i64 atm, .slice P ams.length q, .int .i64 n1, .int .i64 awh, .int .i64 n2]) := Lib.hid ⟨HX.out.below hb (by rw [HS.out]; omega), ho, HB.out.trans (hb.mono HB.out.size)⟩
  clear ho hb HX HB HS
  obtain ⟨c0, c1, c2, c3, c4, c5, c6, c7, c8, c9, c10, c11⟩ := box_cm T.out.1
  go_wp2_with fail
  clear c0 c1 c2 c3 c4 c5 c6 c7 c8 c9 c10 c11
  refine (bytes_a n0 _ b0).mono ?_
  rintro e w4 ⟨A0, q0, rfl, hr, hb⟩
  replace T := Lib.hid (T.out.below hb); clear hb
  have hsz := T.out.1.lt
  have HR := Lib.hid hr; clear hr
  go_upto_region 18 with (at_builtin; refine wpList_append_rd _ rfl _ _ 32 rfl (w.heap.size + 1) 5 i0 (.int .u8 0) 1 Try.underlying32 hi hz0 hz1 hz2 rfl _ _ _ rfl T.out.2.1 A0 _ q0 (bc (NM.enc n0)) rfl HR.out (bc_one _) (by unfold maxLen; (try simp only [List.length_append]); omega) (by (try simp only [List.length_append]); omega) hsz ?_; intro v0 w5 hown hgr hob)
  replace T := Lib.hid (T.out.more hgr hown rfl); clear hgr hown hob hsz HR
  obtain ⟨c0, c1, c2, c3, c4, c5, c6, c7, c8, c9, c10, c11⟩ := box_cm T.out.1
  go_wp2_with fail
  clear c0 c1 c2 c3 c4 c5 c6 c7 c8 c9 c10 c11
  refine (bytes_a n1 _ b1).mono ?_
  rintro e w4 ⟨A1, q1, rfl, hr, hb⟩
  replace T := Lib.hid (T.out.below hb); clear hb
  have hsz := T.out.1.lt
  have HR := Lib.hid hr; clear hr
  go_upto_region 19 with (at_builtin; refine wpList_append_rd _ rfl _ _ 32 rfl (w.heap.size + 1) 5 i0 (.int .u8 0) 1 Try.underlying32 hi hz0 hz1 hz2 rfl _ _ _ rfl T.out.2.1 A1 _ q1 (bc (NM.enc n1)) rfl HR.out (bc_one _) (by unfold maxLen; (try simp only [List.length_append]); omega) (by (try simp only [List.length_append]); omega) hsz ?_; intro v1 w5 hown hgr hob)
  replace T := Lib.hid (T.out.more hgr hown rfl); clear hgr hown hob hsz HR
  obtain ⟨c0, c1, c2, c3, c4, c5, c6, c7, c8, c9, c10, c11⟩ := box_cm T.out.1
  go_wp2_with fail
  clear c0 c1 c2 c3 c4 c5 c6 c7 c8 c9 c10 c11
  refine (bytes_a n2 _ b2).mono ?_
  rintro e w4 ⟨A2, q2, rfl, hr, hb⟩
  replace T := Lib.hid (T.out.below hb); clear hb
  have hsz := T.out.1.lt
  have HR := Lib.hid hr; clear hr
  go_upto_region 22 with (at_builtin; refine wpList_append_rd _ rfl _ _ 32 rfl (w.heap.size + 1) 5 i0 (.int .u8 0) 1 Try.underlying32 hi hz0 hz1 hz2 rfl _ _ _ rfl T.out.2.1 A2 _ q2 (bc (NM.enc n2)) rfl HR.out (bc_one _) (by unfold maxLen; (try simp only [List.length_append]); omega) (by (try simp only [List.length_append]); omega) hsz ?_; intro v2 w5 hown hgr hob)
  replace T := Lib.hid (T.out.more hgr hown rfl); clear hgr hown hob hsz HR
  obtain ⟨c0, c1, c2, c3, c4, c5, c6, c7, c8, c9, c10, c11⟩ := box_cm T.out.1
  rw [HW.out] at T
  obtain ⟨A9, q9, rfl, _, _⟩ := own_slice T.out.2.1
  have hc := str_of (Rd.of_own T.out.2.1) q9
  go_wp2_with fail
  go_ret
  exact ⟨rfl, T.out.2.2⟩
end Go.Proofs.Ytojbcadkcikaoaa.CP

namespace Go.Proofs.Ytojbcadkcikaoaa.CP
open Go.RowKit
open CM (Mg Cm)
set_option linter.unusedVariables false
set_option linter.unusedSimpArgs false
set_option maxRecDepth 100000

set_option maxHeartbeats 8000000 in
theorem text12_6 (mi mt : Int) (mg : List Int) (mk mb : ByteArray) (aid atm : Int) (ams : List Int) (atp awh an : Int) (A : Option Addr) (c : Nat) (P : Option Addr) (q : Nat) (w : World) (r1 : RowIs w A c mg) (r3 : RowIs w P q ams) (hm : CM.may ⟨6, ⟨mi, mg, mt, mk, mb⟩, aid, atm, ams, atp, awh, an⟩) :
    Calls Try.prog 37 #[.agg #[.int .u8 6, .int .i64 mi, .slice A mg.length c, .int .i64 mt, .string mk, .string mb, .int .i64 aid, .int .i64 atm, .slice P ams.length q, .int .i64 atp, .int .i64 awh, .int .i64 an]] w fun e w' => e = .returned (.string ⟨(CM.wr ⟨6, ⟨mi, mg, mt, mk, mb⟩, aid, atm, ams, atp, awh, an⟩).toArray⟩) ∧ Below w.heap.size w w' := by
  obtain ⟨i0, hi, hz0, hz1, hz2⟩ := info_parts info_u8
  have hq := may_iff6.1 hm
  have h1 := hq.2.1
  have h2 := hq.2.2.2.2.1
  have h3 := hq.2.2.2.2.2.1
  clear hq
  unfold CM.idOk at h1
  obtain ⟨n0, rfl⟩ : ∃ n : Nat, aid = n := ⟨aid.toNat, by omega⟩
  have b0 : n0 ≤ 1099511627776 := by omega
  have d0 := NM.enc_le n0
  obtain ⟨n1, rfl⟩ : ∃ n : Nat, atp = n := ⟨atp.toNat, by omega⟩
  have b1 : n1 ≤ 1099511627776 := by omega
  have d1 := NM.enc_le n1
  obtain ⟨n2, rfl⟩ : ∃ n : Nat, an = n := ⟨an.toNat, by omega⟩
  have b2 : n2 ≤ 1099511627776 := by omega
  have d2 := NM.enc_le n2
  have hw : CM.wr ⟨6, ⟨mi, mg, mt, mk, mb⟩, n0, atm, ams, n1, awh, n2⟩ = NM.enc 6 ++ NM.enc n0 ++ NM.enc n1 ++ NM.enc n2 := by unfold CM.wr CM.bod; simp [List.append_assoc]
  have HW := Lib.hid hw.symm
  have lk := NM.enc_le 6
  have hb0 : Below w.heap.size w (w.alloc (.cells #[.int .u8 6, .int .i64 mi, .slice A mg.length c, .int .i64 mt, .string mk, .string mb, .int .i64 n0, .int .i64 atm, .slice P ams.length q, .int .i64 n1, .int .i64 awh, .int .i64 n2] 27)) := (Below.refl _ _).alloc (Nat.le_refl _) _
  have HB := Lib.hid hb0
  have HX := Lib.hid (Box.new w 27 #[.int .u8 6, .int .i64 mi, .slice A mg.length c, .int .i64 mt, .string mk, .string mb, .int .i64 n0, .int .i64 atm, .slice P ams.length q, .int .i64 n1, .int .i64 awh, .int .i64 n2])
  have hsz0 : (w.alloc (.cells #[.int .u8 6, .int .i64 mi, .slice A mg.length c, .int .i64 mt, .string mk, .string mb, .int .i64 n0, .int .i64 atm, .slice P ams.length q, .int .i64 n1, .int .i64 awh, .int .i64 n2] 27)).heap.size = w.heap.size + 1 := by simp
  have HS := Lib.hid hsz0
  clear hb0 hsz0 hw hm r1 r3
  go_enter Try.func37, Try.ntmps37
  go_upto_region 1 with (fail)
  generalize w.alloc (.cells #[.int .u8 6, .int .i64 mi, .slice A mg.length c, .int .i64 mt, .string mk, .string mb, .int .i64 n0, .int .i64 atm, .slice P ams.length q, .int .i64 n1, .int .i64 awh, .int .i64 n2] 27) = w1 at HX HB HS ⊢
  have c0 := HX.out.cell 0
  simp at c0
  go_wp2_with fail
  clear c0
  refine (refBytes_any 6 _ (by decide)).mono ?_
  rintro e w2 ⟨v, rfl, ho, hb⟩
  rw [HS.out] at ho
  have T : Hid (Tx w w2 v (NM.enc 6) #[.int .u8 6, .int .i64 mi, .slice A mg.length c, .int .i64 mt, .string mk, .string mb, .int .i64 n0, .int .i64 atm, .slice P ams.length q, .int .i64 n1, .int .i64 awh, .int .i64 n2]) := Lib.hid ⟨HX.out.below hb (by rw [HS.out]; omega), ho, HB.out.trans (hb.mono HB.out.size)⟩
  clear ho hb HX HB HS
  obtain ⟨c0, c1, c2, c3, c4, c5, c6, c7, c8, c9, c10, c11⟩ := box_cm T.out.1
  go_wp2_with fail
  clear c0 c1 c2 c3 c4 c5 c6 c7 c8 c9 c10 c11
  refine (bytes_a n0 _ b0).mono ?_
  rintro e w4 ⟨A0, q0, rfl, hr, hb⟩
  replace T := Lib.hid (T.out.below hb); clear hb
  have hsz := T.out.1.lt
  have HR := Lib.hid hr; clear hr
  go_upto_region 18 with (at_builtin; refine wpList_append_rd _ rfl _ _ 32 rfl (w.heap.size + 1) 5 i0 (.int .u8 0) 1 Try.underlying32 hi hz0 hz1 hz2 rfl _ _ _ rfl T.out.2.1 A0 _ q0 (bc (NM.enc n0)) rfl HR.out (bc_one _) (by unfold maxLen; (try simp only [List.length_append]); omega) (by (try simp only [List.length_append]); omega) hsz ?_; intro v0 w5 hown hgr hob)
  replace T := Lib.hid (T.out.more hgr hown rfl); clear hgr hown hob hsz HR
  obtain ⟨c0, c1, c2, c3, c4, c5, c6, c7, c8, c9, c10, c11⟩ := box_cm T.out.1
  go_wp2_with fail
  clear c0 c1 c2 c3 c4 c5 c6 c7 c8 c9 c10 c11
  refine (bytes_a n1 _ b1).mono ?_
  rintro e w4 ⟨A1, q1, rfl, hr, hb⟩
  replace T := Lib.hid (T.out.below hb); clear hb
  have hsz := T.out.1.lt
  have HR := Lib.hid hr; clear hr
  go_upto_region 19 with (at_builtin; refine wpList_append_rd _ rfl _ _ 32 rfl (w.heap.size + 1) 5 i0 (.int .u8 0) 1 Try.underlying32 hi hz0 hz1 hz2 rfl _ _ _ rfl T.out.2.1 A1 _ q1 (bc (NM.enc n1)) rfl HR.out (bc_one _) (by unfold maxLen; (try simp only [List.length_append]); omega) (by (try simp only [List.length_append]); omega) hsz ?_; intro v1 w5 hown hgr hob)
  replace T := Lib.hid (T.out.more hgr hown rfl); clear hgr hown hob hsz HR
  obtain ⟨c0, c1, c2, c3, c4, c5, c6, c7, c8, c9, c10, c11⟩ := box_cm T.out.1
  go_wp2_with fail
  clear c0 c1 c2 c3 c4 c5 c6 c7 c8 c9 c10 c11
  refine (bytes_a n2 _ b2).mono ?_
  rintro e w4 ⟨A2, q2, rfl, hr, hb⟩
  replace T := Lib.hid (T.out.below hb); clear hb
  have hsz := T.out.1.lt
  have HR := Lib.hid hr; clear hr
  go_upto_region 22 with (at_builtin; refine wpList_append_rd _ rfl _ _ 32 rfl (w.heap.size + 1) 5 i0 (.int .u8 0) 1 Try.underlying32 hi hz0 hz1 hz2 rfl _ _ _ rfl T.out.2.1 A2 _ q2 (bc (NM.enc n2)) rfl HR.out (bc_one _) (by unfold maxLen; (try simp only [List.length_append]); omega) (by (try simp only [List.length_append]); omega) hsz ?_; intro v2 w5 hown hgr hob)
  replace T := Lib.hid (T.out.more hgr hown rfl); clear hgr hown hob hsz HR
  obtain ⟨c0, c1, c2, c3, c4, c5, c6, c7, c8, c9, c10, c11⟩ := box_cm T.out.1
  rw [HW.out] at T
  obtain ⟨A9, q9, rfl, _, _⟩ := own_slice T.out.2.1
  have hc := str_of (Rd.of_own T.out.2.1) q9
  go_wp2_with fail
  go_ret
  exact ⟨rfl, T.out.2.2⟩
end Go.Proofs.Ytojbcadkcikaoaa.CP

namespace Go.Proofs.Ytojbcadkcikaoaa.CP
open Go.RowKit
open CM (Mg Cm)
set_option linter.unusedVariables false
set_option linter.unusedSimpArgs false
set_option maxRecDepth 100000

def TextIs (x : Cm) (w : World) (e : Ending) (w' : World) : Prop := e = .returned (.string ⟨(CM.wr x).toArray⟩) ∧ Below w.heap.size w w'
theorem text12_any (x : Cm) (v : Value) (w : World) (h : CmIs w v x) (hm : CM.may x) :
    Calls Try.prog 37 #[v] w (TextIs x w) := by
  obtain ⟨A, c, P, q, rfl, r1, r3⟩ := h
  obtain ⟨k, ⟨mi, mg, mt, mk, mb⟩, aid, atm, ams, atp, awh, an⟩ := x
  show Calls _ _ #[.agg #[.int .u8 k, .int .i64 mi, .slice A mg.length c, .int .i64 mt, .string mk, .string mb, .int .i64 aid, .int .i64 atm, .slice P ams.length q, .int .i64 atp, .int .i64 awh, .int .i64 an]] _ _
  by_cases h0 : k = 0
  · subst h0; exact text12_0 mi mt mg mk mb aid atm ams atp awh an A c P q w r1 r3 hm
  by_cases h1 : k = 1
  · subst h1; exact text12_1 mi mt mg mk mb aid atm ams atp awh an A c P q w r1 r3 hm
  by_cases h2 : k = 2
  · subst h2; exact text12_2 mi mt mg mk mb aid atm ams atp awh an A c P q w r1 r3 hm
  by_cases h3 : k = 3
  · subst h3; exact text12_3 mi mt mg mk mb aid atm ams atp awh an A c P q w r1 r3 hm
  by_cases h4 : k = 4
  · subst h4; exact text12_4 mi mt mg mk mb aid atm ams atp awh an A c P q w r1 r3 hm
  by_cases h5 : k = 5
  · subst h5; exact text12_5 mi mt mg mk mb aid atm ams atp awh an A c P q w r1 r3 hm
  by_cases h6 : k = 6
  · subst h6; exact text12_6 mi mt mg mk mb aid atm ams atp awh an A c P q w r1 r3 hm
  exact absurd hm (may_other ⟨h0, h1, h2, h3, h4, h5, h6⟩)
set_option maxHeartbeats 4000000 in
theorem write12_any (x : Cm) (v : Value) (w : World) (h : CmIs w v x) (hf : CmFit x) :
    Calls Try.prog 17 #[v] w (WrIs x w) := by
  have HT : Hid (∀ W, Below w.heap.size w W → CM.may x → Calls Try.prog 37 #[v] W (TextIs x W)) := Lib.hid (fun W hb hm => text12_any x v W (h.below hb) hm)
  obtain ⟨A, c, P, q, rfl, r1, r3⟩ := h
  obtain ⟨k, am, aid, atm, ams, atp, awh, an⟩ := x
  simp only at r1 r3
  have hb0 : Below w.heap.size w (w.alloc (.cells #[.int .u8 k, .int .i64 am.id, .slice A am.gs.length c, .int .i64 am.tp, .string am.key, .string am.body, .int .i64 aid, .int .i64 atm, .slice P ams.length q, .int .i64 atp, .int .i64 awh, .int .i64 an] 27)) := (Below.refl _ _).alloc (Nat.le_refl _) _
  have C := Lib.hid (may12_any ⟨k, am, aid, atm, ams, atp, awh, an⟩ (.agg #[.int .u8 k, .int .i64 am.id, .slice A am.gs.length c, .int .i64 am.tp, .string am.key, .string am.body, .int .i64 aid, .int .i64 atm, .slice P ams.length q, .int .i64 atp, .int .i64 awh, .int .i64 an]) _ ⟨A, c, P, q, rfl, r1.below hb0, r3.below hb0⟩ hf)
  have HB := Lib.hid hb0
  have HX := Lib.hid (Box.new w 27 #[.int .u8 k, .int .i64 am.id, .slice A am.gs.length c, .int .i64 am.tp, .string am.key, .string am.body, .int .i64 aid, .int .i64 atm, .slice P ams.length q, .int .i64 atp, .int .i64 awh, .int .i64 an])
  clear hb0 hf r1 r3
  change Hid (∀ W, Below w.heap.size w W → CM.may ⟨k, am, aid, atm, ams, atp, awh, an⟩ → Calls Try.prog 37 #[.agg #[.int .u8 k, .int .i64 am.id, .slice A am.gs.length c, .int .i64 am.tp, .string am.key, .string am.body, .int .i64 aid, .int .i64 atm, .slice P ams.length q, .int .i64 atp, .int .i64 awh, .int .i64 an]] W (TextIs ⟨k, am, aid, atm, ams, atp, awh, an⟩ W)) at HT
  show Calls _ _ #[.agg #[.int .u8 k, .int .i64 am.id, .slice A am.gs.length c, .int .i64 am.tp, .string am.key, .string am.body, .int .i64 aid, .int .i64 atm, .slice P ams.length q, .int .i64 atp, .int .i64 awh, .int .i64 an]] _ _
  unfold WrIs
  by_cases hm : CM.may ⟨k, am, aid, atm, ams, atp, awh, an⟩
  · rw [if_pos hm, if_pos hm]
    rw [decide_eq_true hm] at C
    have HM := Lib.hid hm
    clear hm
    go_enter Try.func17, Try.ntmps17
    go_upto_region 1 with (fail)
    generalize w.alloc (.cells #[.int .u8 k, .int .i64 am.id, .slice A am.gs.length c, .int .i64 am.tp, .string am.key, .string am.body, .int .i64 aid, .int .i64 atm, .slice P ams.length q, .int .i64 atp, .int .i64 awh, .int .i64 an] 27) = w1 at HX HB C ⊢
    have G1 := Lib.hid HX.out.lt
    generalize w.heap.size = g0 at HX G1 ⊢
    obtain ⟨x0, x1, x2, x3, x4, x5, x6, x7, x8, x9, x10, x11⟩ := box_cm HX.out
    go_wp2_with fail
    refine (C.out).mono ?_
    rintro e w2 ⟨rfl, hb⟩
    clear x0 x1 x2 x3 x4 x5 x6 x7 x8 x9 x10 x11
    obtain ⟨x0, x1, x2, x3, x4, x5, x6, x7, x8, x9, x10, x11⟩ := box_cm (HX.out.below hb G1.out)
    replace HB := Lib.hid (HB.out.trans (hb.mono HB.out.size))
    have D := Lib.hid (HT.out _ HB.out HM.out)
    clear HT C hb HM
    go_wp2_with fail
    refine (D.out).mono ?_
    rintro e w3 ⟨rfl, hb⟩
    go_wp2_with fail
    go_ret2
    exact ⟨rfl, HB.out.trans (hb.mono HB.out.size)⟩
  · rw [if_neg hm, if_neg hm]
    rw [decide_eq_false hm] at C
    clear hm HT
    go_enter Try.func17, Try.ntmps17
    go_upto_region 1 with (fail)
    generalize w.alloc (.cells #[.int .u8 k, .int .i64 am.id, .slice A am.gs.length c, .int .i64 am.tp, .string am.key, .string am.body, .int .i64 aid, .int .i64 atm, .slice P ams.length q, .int .i64 atp, .int .i64 awh, .int .i64 an] 27) = w1 at HX HB C ⊢
    generalize w.heap.size = g0 at HX ⊢
    obtain ⟨x0, x1, x2, x3, x4, x5, x6, x7, x8, x9, x10, x11⟩ := box_cm HX.out
    go_wp2_with fail
    refine (C.out).mono ?_
    rintro e w2 ⟨rfl, hb⟩
    go_wp2_with fail
    go_ret2
    exact ⟨rfl, HB.out.trans (hb.mono HB.out.size)⟩
end Go.Proofs.Ytojbcadkcikaoaa.CP
