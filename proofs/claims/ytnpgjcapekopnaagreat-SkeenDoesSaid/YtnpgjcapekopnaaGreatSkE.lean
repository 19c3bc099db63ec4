/-
  The document's own Great and TwinMessage (towncrierref15). Conditions: a clock that reads as one; at most 2^44 groups.
-/
import Derived.Test.YtnpgjcapekopnaaGreatSkDef
import Derived.Lib.MinMax
namespace Go.Proofs.YtnpgjcapekopnaaGreat.KP
open Go.RowKit CP TP
open CM (Mg Cm)
open TM (Sp)
open KM (Wt Sk)
set_option linter.unusedVariables false
set_option linter.unusedSimpArgs false
set_option maxRecDepth 100000

set_option maxHeartbeats 4000000 in
theorem rtwinMessage_any (m : Mg) (v : Value) (w : World) (h : MgIs w v m) (hs : m.gs.length ≤ 17592186044416) : Calls Tryz.prog 20 #[v] w (TmIs m w) := by
  obtain ⟨A, c, rfl, r1⟩ := h
  obtain ⟨i0, hi, hz0, hz1, hz2⟩ := info_parts info_int15
  obtain ⟨mi, mg, mt, mk, mb⟩ := m
  unfold mcells
  simp only at r1 hs ⊢
  have HB := Lib.hid (show Below w.heap.size w ((w.alloc (.cells #[.int .i64 mi, .slice A mg.length c, .int .i64 mt, .string mk, .string mb] 28)).alloc (.cells #[.int .i64 0, .slice none 0 0, .int .i64 0, .string ⟨#[]⟩, .string ⟨#[]⟩] 28)) from ((Below.refl _ _).alloc (Nat.le_refl _) _).alloc (by simp) _)
  have X := Lib.hid ((Box.new w 28 #[.int .i64 mi, .slice A mg.length c, .int .i64 mt, .string mk, .string mb]).alloc (.cells #[.int .i64 0, .slice none 0 0, .int .i64 0, .string ⟨#[]⟩, .string ⟨#[]⟩] 28))
  have Y := Lib.hid (Box.new_at (w := w.alloc (.cells #[.int .i64 mi, .slice A mg.length c, .int .i64 mt, .string mk, .string mb] 28)) (t := 28) (cs := #[.int .i64 0, .slice none 0 0, .int .i64 0, .string ⟨#[]⟩, .string ⟨#[]⟩]) (w.heap.size + 1) (by simp))
  have R := Lib.hid (fun W (hb : Below w.heap.size w W) => r1.below hb)
  clear r1
  go_enter Tryz.func20, Tryz.ntmps20
  go_upto_region 1 with (fail)
  generalize (w.alloc (.cells #[.int .i64 mi, .slice A mg.length c, .int .i64 mt, .string mk, .string mb] 28)).alloc (.cells #[.int .i64 0, .slice none 0 0, .int .i64 0, .string ⟨#[]⟩, .string ⟨#[]⟩] 28) = w1 at HB X Y ⊢
  have hlt := Y.out.lt
  obtain ⟨⟨x0, x1, x2, x3, x4⟩, f0, f1, f2, f3, f4⟩ := box_mg5 X.out
  go_upto_region 2 with (at_builtin; refine wpList_append_rd _ rfl _ _ 26 rfl (w.heap.size + 1 + 1) 3 i0 (.int .i64 0) 8 Tryz.underlying26 hi hz0 hz1 hz2 rfl (.slice none 0 0) 0 [] rfl (World.ownsRow_nil _ _ _ _) A mg.length c (ic mg) rfl (R.out _ HB.out).1 (ic_one _) (by unfold maxLen; omega) (by omega) hlt ?_; intro v1 u1 hown hgr hob; rw [Nat.zero_add] at hown; obtain ⟨A1, c1, rfl, hc1, hm1⟩ := own_form hown; have hb := below_of_grown hgr (by intro g h; cases h); have HG := Lib.hid (rowGe_own (l := mg) (by simpa using hown) rfl hc1 hm1); replace HB := Lib.hid (bmore HB.out hb (Nat.le_refl _)); replace X := Lib.hid (X.out.below hb X.out.lt); replace Y := Lib.hid (Y.out.below hb Y.out.lt); clear x0 x1 x2 x3 x4 f0 f1 f2 f3 f4; obtain ⟨⟨x0, x1, x2, x3, x4⟩, f0, f1, f2, f3, f4⟩ := box_mg5 X.out)
  clear x0 x1 x2 x3 x4 f0 f1 f2 f3 f4
  replace HB := Lib.hid (HB.out.setCell (p := ⟨w.heap.size, 1, none⟩) (Nat.le_refl _) (.slice A1 mg.length c1))
  replace X := Lib.hid (X.out.stored 1 (.slice A1 mg.length c1))
  replace Y := Lib.hid (Y.out.far (p := ⟨w.heap.size, 1, none⟩) (by show w.heap.size + 1 ≠ w.heap.size; omega) (.slice A1 mg.length c1))
  replace HG := Lib.hid (HG.out.set (i := 1) (show w.heap.size < w.heap.size + 1 + 1 by omega) (.slice A1 mg.length c1))
  clear hown hgr hob hb
  generalize u1.setCell ⟨w.heap.size, 1, none⟩ (.slice A1 mg.length c1) = w2 at HB X Y HG ⊢
  obtain ⟨x0, x1, x2, x3, x4⟩ := box_mg (show Box w2 w.heap.size 28 #[.int .i64 mi, .slice A1 mg.length c1, .int .i64 mt, .string mk, .string mb] by simpa using X.out)
  obtain ⟨⟨y0, y1, y2, y3, y4⟩, f0, f1, f2, f3, f4⟩ := box_mg5 Y.out
  have Z := Lib.hid (pt5_box Y.out (.int .i64 mi) (.slice A1 mg.length c1) (.int .i64 mt) (.string mk) (.string mb))
  have ZB := Lib.hid (pt5_below HB.out (g := w.heap.size + 1) (by omega) (.int .i64 mi) (.slice A1 mg.length c1) (.int .i64 mt) (.string mk) (.string mb))
  have ZG := Lib.hid ((RowGe.setB HG.out (g := w.heap.size + 1) (by omega) (.int .i64 mi) (.slice A1 mg.length c1) (.int .i64 mt) (.string mk) (.string mb)).mono (show w.heap.size ≤ w.heap.size + 1 + 1 by omega))
  go_wp2_with fail
  unfold pt5 at Z ZB ZG
  obtain ⟨z0, z1, z2, z3, z4⟩ := box_mg Z.out
  exact bodyPost_ret (v := .agg #[.int .i64 mi, .slice A1 mg.length c1, .int .i64 mt, .string mk, .string mb]) (by simp [results, Tryz.results20, go_sem, z0, z1, z2, z3, z4]; try rfl) rfl ⟨A1, c1, rfl, ZG.out, ZB.out⟩
end Go.Proofs.YtnpgjcapekopnaaGreat.KP
