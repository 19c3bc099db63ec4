/- Contracts of functions, L30: each as its theorem says. -/
import Derived.Test.YteebeiaokfenmaaGreatL29
set_option linter.unusedVariables false
set_option linter.unusedSimpArgs false
set_option maxRecDepth 100000
set_option maxHeartbeats 16000000
namespace Go.Proofs.YteebeiaokfenmaaGreat
namespace CP
open Go.RowKit
open CM (Mg Cm)
theorem pwrite_1 (mi mt : Int) (mg : List Int) (mk mb : ByteArray) (aid atm : Int) (ams : List Int) (atp awh an : Int) (A : Option Addr) (c : Nat) (P : Option Addr) (q : Nat) (w : World) (r1 : RowIs w A c mg) (r3 : RowIs w P q ams) (hm : CM.may ⟨1, ⟨mi, mg, mt, mk, mb⟩, aid, atm, ams, atp, awh, an⟩) (hf : CmFit ⟨1, ⟨mi, mg, mt, mk, mb⟩, aid, atm, ams, atp, awh, an⟩) :
  Calls Tryz.prog 42 #[.agg #[.int .u8 1, .int .i64 mi, .slice A mg.length c, .int .i64 mt, .string mk, .string mb, .int .i64 aid, .int .i64 atm, .slice P ams.length q, .int .i64 atp, .int .i64 awh, .int .i64 an]] w fun e w' => e = .returned (.tuple #[.string ⟨(CM.wr ⟨1, ⟨mi, mg, mt, mk, mb⟩, aid, atm, ams, atp, awh, an⟩).toArray⟩, .int .i64 0]) ∧ Below w.heap.size w w' := by
 have CC := h! (fun W (hb : Below w.heap.size w W) => pcheck_any ⟨1, ⟨mi, mg, mt, mk, mb⟩, aid, atm, ams, atp, awh, an⟩ (.agg (ccells A c P q ⟨1, ⟨mi, mg, mt, mk, mb⟩, aid, atm, ams, atp, awh, an⟩)) W ⟨A, c, P, q, rfl, r1.below hb, r3.below hb⟩ hf)
 rw [if_pos hm] at CC
 unfold ccells at CC
 simp only at CC
 have hq := may_iff1.1 hm
 have hmg := hq.1
 clear hq
 obtain ⟨g1, g2, g3⟩ := CM.gs_fit hmg
 obtain ⟨m1, m2, m3, m4, m5, m6⟩ := hmg
 unfold CM.idOk at m1
 simp only at m1 m4 m5 m6 g1 g2 g3
 have l1 : mg.length ≤ 6 := by have : (CM.nats mg).length = mg.length := (by simp [CM.nats]); omega
 have l2 : ∀ z ∈ mg, 0 ≤ z ∧ z ≤ 1099511627776 := fun z hz => by have h1 := g1 z hz; have h2 := g3 z.toNat (List.mem_map.2 ⟨z, hz, rfl⟩); omega
 have t1 := text_lenp (v := mk) (by omega)
 have t2 := text_lenp (v := mb) (by omega)
 have t3 := ints_lenp l1
 obtain ⟨n0, rfl⟩ : ∃ n : Nat, mi = n := ⟨mi.toNat, by omega⟩
 have b0 : n0 ≤ 1099511627776 := by omega
 obtain ⟨n1, rfl⟩ : ∃ n : Nat, mt = n := ⟨mt.toNat, by omega⟩
 have b1 : n1 ≤ 1099511627776 := by omega
 have le0 : (encs [1]).length ≤ 10 := encs_len [1]
 have le1 : (encs [n0]).length ≤ 10 := encs_len [n0]
 have le2 : (encs [n1]).length ≤ 10 := encs_len [n1]
 have hw : [] ++ encs [1] ++ encs [n0] ++ NM.ints (CM.nats mg) ++ encs [n1] ++ NM.text (RM.bsz mk) ++ NM.text (RM.bsz mb) = CM.wr ⟨1, ⟨n0, mg, n1, mk, mb⟩, aid, atm, ams, atp, awh, an⟩ := by unfold CM.wr CM.bod; simp [List.append_assoc, encs]
 have HW := h! hw
 generalize CM.wr ⟨1, ⟨n0, mg, n1, mk, mb⟩, aid, atm, ams, atp, awh, an⟩ = T at HW ⊢
 have CF := h! (fun w => fields_any (show Fl 1 true false false false false true from .inr (.inl ⟨rfl, rfl, rfl, rfl, rfl, rfl, rfl⟩)) w)
 have hb0 : Below w.heap.size w (w.alloc (.cells #[.int .u8 1, .int .i64 n0, .slice A mg.length c, .int .i64 n1, .string mk, .string mb, .int .i64 aid, .int .i64 atm, .slice P ams.length q, .int .i64 atp, .int .i64 awh, .int .i64 an] 91)) := b!
 have HB := h! hb0
 have R0 := h! (Box.new w 91 #[.int .u8 1, .int .i64 n0, .slice A mg.length c, .int .i64 n1, .string mk, .string mb, .int .i64 aid, .int .i64 atm, .slice P ams.length q, .int .i64 atp, .int .i64 awh, .int .i64 an])
 have DR := h! (fun W (h : Below w.heap.size w W) => ints_a A mg.length c mg W (r1.below h).1 (by omega) l2)
 clear hb0 hw hm hf r1 r3 g1 g2 g3 l2 m1 m2 m3 m4
 go_enter Tryz.func42, Tryz.ntmps42
 go_wp2_with fail
 refine (CC.out _ HB.out).mono ?_
 rintro e w1 ⟨rfl, hb1⟩
 have R1 := h! (R0.out.below hb1 R0.out.lt)
 have HB1 := h! (bmore HB.out hb1 (by simp))
 have HLT := h! (Nat.lt_of_lt_of_le R0.out.lt hb1.size)
 clear hb1 R0 HB CC
 have cN := (gat_nil w1).cell 0
 have fN := (gat_nil w1).frozen 0
 simp at cN
 have hst : ∀ (a : Addr) (fn : Fn) (x y : Array Value) (w : World), (store a (.func fn x y)).run Tryz.prog w = stored Tryz.prog w a (.func fn x y) .plain := fun _ _ _ _ _ => run_store _ _ _ _ _ rfl
 go_upto_region 7 with (fail)
 clear cN fN hst
 have GN := h! (gat_new w1)
 unfold gval at GN
 have hb2 := gat_below w1 (.func (.func 66) #[] #[.pointer (some ⟨w1.heap.size, 0, none⟩)])
 replace R1 := h! (R1.out.below hb2 R1.out.lt)
 replace HB1 := h! (bmore HB1.out hb2 n!)
 clear hb2
 generalize (w1.alloc (.cells #[.slice none 0 0] 120)).alloc (.cells #[.func (.func 66) #[] #[.pointer (some ⟨w1.heap.size, 0, none⟩)]] 121) = w2 at GN R1 HB1 ⊢
 generalize w1.heap.size = g at GN HLT ⊢
 obtain ⟨c0, c1, c2, c3, c4, c5, c6, c7, c8, c9, c10, c11⟩ := box_cm R1.out
 clear c1 c2 c3 c4 c5 c6 c7 c8 c9 c10 c11
 go_wp2_with fail
 refine (CF.out _).mono ?_
 rintro e w3 ⟨rfl, hb3⟩
 have S := h! (ws_new (R1.out.below hb3 R1.out.lt) (show GatV w3 g (.slice none 0 0) [] from GN.out.below hb3) HLT.out (bmore HB1.out hb3 n!) true false false false false)
 clear hb3 GN R1 HB1 HLT CF c0
 go_upto_region 8 with (fail)
 generalize w3.alloc (.cells #[.bool true, .bool false, .bool false, .bool false, .bool false] 126) = w4 at S ⊢
 generalize w3.heap.size = f at S ⊢
 have HSS : Hid (∀ W v' pre', Ws w W #[.int .u8 1, .int .i64 n0, .slice A mg.length c, .int .i64 n1, .string mk, .string mb, .int .i64 aid, .int .i64 atm, .slice P ams.length q, .int .i64 atp, .int .i64 awh, .int .i64 an] f true false false false false g v' pre' → W.cell? ⟨g + 1, 0, none⟩ = some (.func (.func 66) #[] #[.pointer (some ⟨g, 0, none⟩)])) := h! (fun W v' pre' hW => by
  have := hW.2.1.2.1.cell 0
  simpa [gval] using this)
 obtain ⟨x0, x1, x2, x3, x4, x5, x6, x7, x8, x9, x10, x11⟩ := box_cm S.out.1
 obtain ⟨y0, y1, y2, y3, y4⟩ := box_mg S.out.2.2.1
 go_wp2_with fail
 clear x0 x1 x2 x3 x4 x5 x6 x7 x8 x9 x10 x11 y0 y1 y2 y3 y4
 refine (nums_lit S.out [1] _ _ rfl rfl (by simp) (by intro z hz; simp at hz; omega) (by simp only [List.length_append, List.length_nil]; omega)).mono ?_
 rintro e u0 ⟨rfl, v0, hS⟩
 replace S := h! hS
 clear hS
 obtain ⟨x0, x1, x2, x3, x4, x5, x6, x7, x8, x9, x10, x11⟩ := box_cm S.out.1
 obtain ⟨y0, y1, y2, y3, y4⟩ := box_mg S.out.2.2.1
 go_wp2_with fail
 clear x0 x1 x2 x3 x4 x5 x6 x7 x8 x9 x10 x11 y0 y1 y2 y3 y4
 refine (nums_lit S.out [n0] _ _ rfl rfl (by simp) (by intro z hz; simp at hz; omega) (by simp only [List.length_append, List.length_nil]; omega)).mono ?_
 rintro e u1 ⟨rfl, v1, hS⟩
 replace S := h! hS
 clear hS
 obtain ⟨x0, x1, x2, x3, x4, x5, x6, x7, x8, x9, x10, x11⟩ := box_cm S.out.1
 obtain ⟨y0, y1, y2, y3, y4⟩ := box_mg S.out.2.2.1
 go_upto_region 11 with (fail)
 clear x0 x1 x2 x3 x4 x5 x6 x7 x8 x9 x10 x11 y0 y1 y2 y3 y4
 have HK : Hid (∀ W v' pre', Ws w W #[.int .u8 1, .int .i64 n0, .slice A mg.length c, .int .i64 n1, .string mk, .string mb, .int .i64 aid, .int .i64 atm, .slice P ams.length q, .int .i64 atp, .int .i64 awh, .int .i64 an] f true false false false false g v' pre' → W.cell? ⟨g + 1, 0, none⟩ = some (.func (.func 66) #[] #[.pointer (some ⟨g, 0, none⟩)]) ∧ W.cell? ⟨w.heap.size, 2, none⟩ = some (.slice A mg.length c)) := h! (fun W v' pre' hW => ⟨HSS.out _ _ _ hW, hW.1.cell 2⟩)
 replace S := h! (S.out.below (show Below u1.heap.size u1 u1.drew from (Below.refl _ _).drew))
 obtain ⟨ud, hud⟩ : ∃ ud, ud = u1.drew := ⟨_, rfl⟩
 refine wp_region_held_drew (S := fun w' => w'.cell? ⟨g + 1, 0, none⟩ = some (.func (.func 66) #[] #[.pointer (some ⟨g, 0, none⟩)]) ∧ w'.cell? ⟨w.heap.size, 2, none⟩ = some (.slice A mg.length c)) (by kernel_rfl) (HK.out _ _ _ S.out) (fun hHeld => ?_)
 rw [← hud] at S hHeld ⊢
 clear hud
 refine qT 0 ?_; try simp only [Act.put, qq]
 refine qT 1 ?_; try simp only [Act.put, qq]
 refine qT 2 ?_; try simp only [Act.put, qq]
 refine qT 3 ?_; try simp only [Act.put, qq]
 refine qR 4 fun K hK => ?_
 go_simp
 refine (DR.out _ S.out.2.2.2.2).mono ?_
 rintro e ua ⟨A2, q2, rfl, hrd, hb⟩
 replace S := h! (S.out.below hb)
 refine hK.out _ _ (HK.out _ _ _ S.out) (fun hHeld => ?_)
 clear hK hb
 try simp only [Act.put, qq]
 refine qT 5 ?_; try simp only [Act.put, qq]
 refine qT 6 ?_; try simp only [Act.put, qq]
 refine qR 7 fun K hK => ?_
 go_simp
 refine (gather_any g ([] ++ encs [1] ++ encs [n0]) (NM.ints (CM.nats mg)) A2 _ q2 _ ua S.out.2.1 hrd (by omega) (by simp only [List.length_append, List.length_nil]; omega)).mono ?_
 rintro e u2 ⟨rfl, v2, hg2, hk2, hb2⟩
 replace S := h! (S.out.more hg2 hk2 hb2)
 refine hK.out _ _ (HK.out _ _ _ S.out) (fun hHeld => ?_)
 clear hK hg2 hk2 hb2 hrd
 try simp only [Act.put, qq]
 refine wpAnyH_done (by kernel_rfl) ?_ _
 clear hHeld HK
 obtain ⟨x0, x1, x2, x3, x4, x5, x6, x7, x8, x9, x10, x11⟩ := box_cm S.out.1
 obtain ⟨y0, y1, y2, y3, y4⟩ := box_mg S.out.2.2.1
 go_wp2_with fail
 clear x0 x1 x2 x3 x4 x5 x6 x7 x8 x9 x10 x11 y0 y1 y2 y3 y4
 refine (nums_lit S.out [n1] _ _ rfl rfl (by simp) (by intro z hz; simp at hz; omega) (by simp only [List.length_append, List.length_nil]; omega)).mono ?_
 rintro e u3 ⟨rfl, v3, hS⟩
 replace S := h! hS
 clear hS
 obtain ⟨x0, x1, x2, x3, x4, x5, x6, x7, x8, x9, x10, x11⟩ := box_cm S.out.1
 obtain ⟨y0, y1, y2, y3, y4⟩ := box_mg S.out.2.2.1
 go_upto_region 13 with (fail)
 clear x0 x1 x2 x3 x4 x5 x6 x7 x8 x9 x10 x11 y0 y1 y2 y3 y4
 have HK : Hid (∀ W v' pre', Ws w W #[.int .u8 1, .int .i64 n0, .slice A mg.length c, .int .i64 n1, .string mk, .string mb, .int .i64 aid, .int .i64 atm, .slice P ams.length q, .int .i64 atp, .int .i64 awh, .int .i64 an] f true false false false false g v' pre' → W.cell? ⟨g + 1, 0, none⟩ = some (.func (.func 66) #[] #[.pointer (some ⟨g, 0, none⟩)]) ∧ W.cell? ⟨w.heap.size, 4, none⟩ = some (.string mk)) := h! (fun W v' pre' hW => ⟨HSS.out _ _ _ hW, hW.1.cell 4⟩)
 replace S := h! (S.out.below (show Below u3.heap.size u3 u3.drew from (Below.refl _ _).drew))
 obtain ⟨ud, hud⟩ : ∃ ud, ud = u3.drew := ⟨_, rfl⟩
 refine wp_region_held_drew (S := fun w' => w'.cell? ⟨g + 1, 0, none⟩ = some (.func (.func 66) #[] #[.pointer (some ⟨g, 0, none⟩)]) ∧ w'.cell? ⟨w.heap.size, 4, none⟩ = some (.string mk)) (by kernel_rfl) (HK.out _ _ _ S.out) (fun hHeld => ?_)
 rw [← hud] at S hHeld ⊢
 clear hud
 refine qT 0 ?_; try simp only [Act.put, qq]
 refine qT 1 ?_; try simp only [Act.put, qq]
 refine qT 2 ?_; try simp only [Act.put, qq]
 refine qT 3 ?_; try simp only [Act.put, qq]
 refine qR 4 fun K hK => ?_
 go_simp
 refine (text_a mk _ (by omega)).mono ?_
 rintro e ua ⟨A4, q4, rfl, hrd, hb⟩
 replace S := h! (S.out.below hb)
 refine hK.out _ _ (HK.out _ _ _ S.out) (fun hHeld => ?_)
 clear hK hb
 try simp only [Act.put, qq]
 refine qT 5 ?_; try simp only [Act.put, qq]
 refine qT 6 ?_; try simp only [Act.put, qq]
 refine qR 7 fun K hK => ?_
 go_simp
 refine (gather_any g ([] ++ encs [1] ++ encs [n0] ++ NM.ints (CM.nats mg) ++ encs [n1]) (NM.text (RM.bsz mk)) A4 _ q4 _ ua S.out.2.1 hrd (by omega) (by simp only [List.length_append, List.length_nil]; omega)).mono ?_
 rintro e u4 ⟨rfl, v4, hg2, hk2, hb2⟩
 replace S := h! (S.out.more hg2 hk2 hb2)
 refine hK.out _ _ (HK.out _ _ _ S.out) (fun hHeld => ?_)
 clear hK hg2 hk2 hb2 hrd
 try simp only [Act.put, qq]
 refine wpAnyH_done (by kernel_rfl) ?_ _
 clear hHeld HK
 obtain ⟨x0, x1, x2, x3, x4, x5, x6, x7, x8, x9, x10, x11⟩ := box_cm S.out.1
 obtain ⟨y0, y1, y2, y3, y4⟩ := box_mg S.out.2.2.1
 go_upto_region 14 with (fail)
 clear x0 x1 x2 x3 x4 x5 x6 x7 x8 x9 x10 x11 y0 y1 y2 y3 y4
 have HK : Hid (∀ W v' pre', Ws w W #[.int .u8 1, .int .i64 n0, .slice A mg.length c, .int .i64 n1, .string mk, .string mb, .int .i64 aid, .int .i64 atm, .slice P ams.length q, .int .i64 atp, .int .i64 awh, .int .i64 an] f true false false false false g v' pre' → W.cell? ⟨g + 1, 0, none⟩ = some (.func (.func 66) #[] #[.pointer (some ⟨g, 0, none⟩)]) ∧ W.cell? ⟨w.heap.size, 5, none⟩ = some (.string mb)) := h! (fun W v' pre' hW => ⟨HSS.out _ _ _ hW, hW.1.cell 5⟩)
 replace S := h! (S.out.below (show Below u4.heap.size u4 u4.drew from (Below.refl _ _).drew))
 obtain ⟨ud, hud⟩ : ∃ ud, ud = u4.drew := ⟨_, rfl⟩
 refine wp_region_held_drew (S := fun w' => w'.cell? ⟨g + 1, 0, none⟩ = some (.func (.func 66) #[] #[.pointer (some ⟨g, 0, none⟩)]) ∧ w'.cell? ⟨w.heap.size, 5, none⟩ = some (.string mb)) (by kernel_rfl) (HK.out _ _ _ S.out) (fun hHeld => ?_)
 rw [← hud] at S hHeld ⊢
 clear hud
 refine qT 0 ?_; try simp only [Act.put, qq]
 refine qT 1 ?_; try simp only [Act.put, qq]
 refine qT 2 ?_; try simp only [Act.put, qq]
 refine qT 3 ?_; try simp only [Act.put, qq]
 refine qR 4 fun K hK => ?_
 go_simp
 refine (text_a mb _ (by omega)).mono ?_
 rintro e ua ⟨A5, q5, rfl, hrd, hb⟩
 replace S := h! (S.out.below hb)
 refine hK.out _ _ (HK.out _ _ _ S.out) (fun hHeld => ?_)
 clear hK hb
 try simp only [Act.put, qq]
 refine qT 5 ?_; try simp only [Act.put, qq]
 refine qT 6 ?_; try simp only [Act.put, qq]
 refine qR 7 fun K hK => ?_
 go_simp
 refine (gather_any g ([] ++ encs [1] ++ encs [n0] ++ NM.ints (CM.nats mg) ++ encs [n1] ++ NM.text (RM.bsz mk)) (NM.text (RM.bsz mb)) A5 _ q5 _ ua S.out.2.1 hrd (by omega) (by simp only [List.length_append, List.length_nil]; omega)).mono ?_
 rintro e u5 ⟨rfl, v5, hg2, hk2, hb2⟩
 replace S := h! (S.out.more hg2 hk2 hb2)
 refine hK.out _ _ (HK.out _ _ _ S.out) (fun hHeld => ?_)
 clear hK hg2 hk2 hb2 hrd
 try simp only [Act.put, qq]
 refine wpAnyH_done (by kernel_rfl) ?_ _
 clear hHeld HK
 obtain ⟨x0, x1, x2, x3, x4, x5, x6, x7, x8, x9, x10, x11⟩ := box_cm S.out.1
 obtain ⟨y0, y1, y2, y3, y4⟩ := box_mg S.out.2.2.1
 rw [HW.out] at S
 obtain ⟨b1, _, ho⟩ := S.out.2.1
 obtain ⟨A9, q9, rfl, _, _⟩ := own_slice ho
 have d1 := b1.cell 0
 simp at d1
 have hc := str_at (Rd.of_own ho) q9
 clear b1 ho x0 x1 x2 x3 x4 x5 x6 x7 x8 x9 x10 x11
 go_wp2_with fail
 go_ret2
 exact ⟨rfl, S.out.2.2.2.2⟩
theorem pwrite_2 (mi mt : Int) (mg : List Int) (mk mb : ByteArray) (aid atm : Int) (ams : List Int) (atp awh an : Int) (A : Option Addr) (c : Nat) (P : Option Addr) (q : Nat) (w : World) (r1 : RowIs w A c mg) (r3 : RowIs w P q ams) (hm : CM.may ⟨2, ⟨mi, mg, mt, mk, mb⟩, aid, atm, ams, atp, awh, an⟩) (hf : CmFit ⟨2, ⟨mi, mg, mt, mk, mb⟩, aid, atm, ams, atp, awh, an⟩) :
  Calls Tryz.prog 42 #[.agg #[.int .u8 2, .int .i64 mi, .slice A mg.length c, .int .i64 mt, .string mk, .string mb, .int .i64 aid, .int .i64 atm, .slice P ams.length q, .int .i64 atp, .int .i64 awh, .int .i64 an]] w fun e w' => e = .returned (.tuple #[.string ⟨(CM.wr ⟨2, ⟨mi, mg, mt, mk, mb⟩, aid, atm, ams, atp, awh, an⟩).toArray⟩, .int .i64 0]) ∧ Below w.heap.size w w' := by
 have CC := h! (fun W (hb : Below w.heap.size w W) => pcheck_any ⟨2, ⟨mi, mg, mt, mk, mb⟩, aid, atm, ams, atp, awh, an⟩ (.agg (ccells A c P q ⟨2, ⟨mi, mg, mt, mk, mb⟩, aid, atm, ams, atp, awh, an⟩)) W ⟨A, c, P, q, rfl, r1.below hb, r3.below hb⟩ hf)
 rw [if_pos hm] at CC
 unfold ccells at CC
 simp only at CC
 have hq := may_iff2.1 hm
 have q1 := hq.2.1
 have q2 := hq.2.2.1
 clear hq
 unfold CM.idOk at q1
 obtain ⟨n0, rfl⟩ : ∃ n : Nat, aid = n := ⟨aid.toNat, by omega⟩
 have b0 : n0 ≤ 1099511627776 := by omega
 obtain ⟨n1, rfl⟩ : ∃ n : Nat, atm = n := ⟨atm.toNat, by omega⟩
 have b1 : n1 ≤ 1099511627776 := by omega
 have le0 : (encs [2]).length ≤ 10 := encs_len [2]
 have le1 : (encs [n0, n1]).length ≤ 20 := encs_len [n0, n1]
 have hw : [] ++ encs [2] ++ encs [n0, n1] = CM.wr ⟨2, ⟨mi, mg, mt, mk, mb⟩, n0, n1, ams, atp, awh, an⟩ := by unfold CM.wr CM.bod; simp [List.append_assoc, encs]
 have HW := h! hw
 generalize CM.wr ⟨2, ⟨mi, mg, mt, mk, mb⟩, n0, n1, ams, atp, awh, an⟩ = T at HW ⊢
 have CF := h! (fun w => fields_any (show Fl 2 false true false false false true from .inr (.inr (.inl ⟨rfl, rfl, rfl, rfl, rfl, rfl, rfl⟩))) w)
 have hb0 : Below w.heap.size w (w.alloc (.cells #[.int .u8 2, .int .i64 mi, .slice A mg.length c, .int .i64 mt, .string mk, .string mb, .int .i64 n0, .int .i64 n1, .slice P ams.length q, .int .i64 atp, .int .i64 awh, .int .i64 an] 91)) := b!
 have HB := h! hb0
 have R0 := h! (Box.new w 91 #[.int .u8 2, .int .i64 mi, .slice A mg.length c, .int .i64 mt, .string mk, .string mb, .int .i64 n0, .int .i64 n1, .slice P ams.length q, .int .i64 atp, .int .i64 awh, .int .i64 an])
 clear hb0 hw hm hf r1 r3 q1 q2
 go_enter Tryz.func42, Tryz.ntmps42
 go_wp2_with fail
 refine (CC.out _ HB.out).mono ?_
 rintro e w1 ⟨rfl, hb1⟩
 have R1 := h! (R0.out.below hb1 R0.out.lt)
 have HB1 := h! (bmore HB.out hb1 (by simp))
 have HLT := h! (Nat.lt_of_lt_of_le R0.out.lt hb1.size)
 clear hb1 R0 HB CC
 have cN := (gat_nil w1).cell 0
 have fN := (gat_nil w1).frozen 0
 simp at cN
 have hst : ∀ (a : Addr) (fn : Fn) (x y : Array Value) (w : World), (store a (.func fn x y)).run Tryz.prog w = stored Tryz.prog w a (.func fn x y) .plain := fun _ _ _ _ _ => run_store _ _ _ _ _ rfl
 go_upto_region 7 with (fail)
 clear cN fN hst
 have GN := h! (gat_new w1)
 unfold gval at GN
 have hb2 := gat_below w1 (.func (.func 66) #[] #[.pointer (some ⟨w1.heap.size, 0, none⟩)])
 replace R1 := h! (R1.out.below hb2 R1.out.lt)
 replace HB1 := h! (bmore HB1.out hb2 n!)
 clear hb2
 generalize (w1.alloc (.cells #[.slice none 0 0] 120)).alloc (.cells #[.func (.func 66) #[] #[.pointer (some ⟨w1.heap.size, 0, none⟩)]] 121) = w2 at GN R1 HB1 ⊢
 generalize w1.heap.size = g at GN HLT ⊢
 obtain ⟨c0, c1, c2, c3, c4, c5, c6, c7, c8, c9, c10, c11⟩ := box_cm R1.out
 clear c1 c2 c3 c4 c5 c6 c7 c8 c9 c10 c11
 go_wp2_with fail
 refine (CF.out _).mono ?_
 rintro e w3 ⟨rfl, hb3⟩
 have S := h! (ws_new (R1.out.below hb3 R1.out.lt) (show GatV w3 g (.slice none 0 0) [] from GN.out.below hb3) HLT.out (bmore HB1.out hb3 n!) false true false false false)
 clear hb3 GN R1 HB1 HLT CF c0
 go_upto_region 8 with (fail)
 generalize w3.alloc (.cells #[.bool false, .bool true, .bool false, .bool false, .bool false] 126) = w4 at S ⊢
 generalize w3.heap.size = f at S ⊢
 have HSS : Hid (∀ W v' pre', Ws w W #[.int .u8 2, .int .i64 mi, .slice A mg.length c, .int .i64 mt, .string mk, .string mb, .int .i64 n0, .int .i64 n1, .slice P ams.length q, .int .i64 atp, .int .i64 awh, .int .i64 an] f false true false false false g v' pre' → W.cell? ⟨g + 1, 0, none⟩ = some (.func (.func 66) #[] #[.pointer (some ⟨g, 0, none⟩)])) := h! (fun W v' pre' hW => by
  have := hW.2.1.2.1.cell 0
  simpa [gval] using this)
 obtain ⟨x0, x1, x2, x3, x4, x5, x6, x7, x8, x9, x10, x11⟩ := box_cm S.out.1
 obtain ⟨y0, y1, y2, y3, y4⟩ := box_mg S.out.2.2.1
 go_wp2_with fail
 clear x0 x1 x2 x3 x4 x5 x6 x7 x8 x9 x10 x11 y0 y1 y2 y3 y4
 refine (nums_lit S.out [2] _ _ rfl rfl (by simp) (by intro z hz; simp at hz; omega) (by simp only [List.length_append, List.length_nil]; omega)).mono ?_
 rintro e u0 ⟨rfl, v0, hS⟩
 replace S := h! hS
 clear hS
 obtain ⟨x0, x1, x2, x3, x4, x5, x6, x7, x8, x9, x10, x11⟩ := box_cm S.out.1
 obtain ⟨y0, y1, y2, y3, y4⟩ := box_mg S.out.2.2.1
 go_wp2_with fail
 clear x0 x1 x2 x3 x4 x5 x6 x7 x8 x9 x10 x11 y0 y1 y2 y3 y4
 refine (nums_lit S.out [n0, n1] _ _ rfl rfl (by simp) (by intro z hz; simp at hz; omega) (by simp only [List.length_append, List.length_nil]; omega)).mono ?_
 rintro e u1 ⟨rfl, v1, hS⟩
 replace S := h! hS
 clear hS
 obtain ⟨x0, x1, x2, x3, x4, x5, x6, x7, x8, x9, x10, x11⟩ := box_cm S.out.1
 obtain ⟨y0, y1, y2, y3, y4⟩ := box_mg S.out.2.2.1
 rw [HW.out] at S
 obtain ⟨b1, _, ho⟩ := S.out.2.1
 obtain ⟨A9, q9, rfl, _, _⟩ := own_slice ho
 have d1 := b1.cell 0
 simp at d1
 have hc := str_at (Rd.of_own ho) q9
 clear b1 ho x0 x1 x2 x3 x4 x5 x6 x7 x8 x9 x10 x11
 go_wp2_with fail
 go_ret2
 exact ⟨rfl, S.out.2.2.2.2⟩
end CP
end Go.Proofs.YteebeiaokfenmaaGreat
