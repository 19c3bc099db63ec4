/-
  Package skeen: stampOf, inOrder, the comparison of place. Conditions: none.
  Package stamp's Check and Rises. Conditions: as each theorem says.
  Package skeen: Same. Conditions: clocks that read as such.
  The document's own Agree of two orders (towncrierref16). Conditions: slices of stamps that read, at most 4,096.
-/
import Derived.Test.YteebeiaokfenmaaGreatK01
import Derived.Test.YteebeiaokfenmaaGreatK09
import Derived.Test.YteebeiaokfenmaaGreatK08
import Derived.Test.YteebeiaokfenmaaGreatK03
import Derived.Test.YteebeiaokfenmaaGreatK13
import Derived.Test.YteebeiaokfenmaaGreatK14
namespace Go.Proofs.YteebeiaokfenmaaGreat.KP
open Go.RowKit CP TP
open CM (Mg Cm)
open TM (Sp)
open KM (Wt Sk)
set_option linter.unusedVariables false
set_option linter.unusedSimpArgs false
set_option maxRecDepth 100000
set_option maxHeartbeats 1000000 in
theorem pstampOf_any (A : Option Addr) (c : Nat) (x : Wt) (w : World) : Calls Tryz.prog 138 #[vwt A c x] w (IsSp (KM.stp x) w) := by
 have HB := h! (show Below w.heap.size w ((w.alloc (.cells #[.int .i64 x.m.id, .slice A x.m.gs.length c, .int .i64 x.m.tp, .string x.m.key, .string x.m.body, .int .i64 x.t, .bool x.f] 78)).alloc (.cells #[.int .i64 0, .int .i64 0] 46)) from ((Below.refl _ _).alloc n! _).alloc (by simp) _)
 have X := h! ((Box.new w 78 #[.int .i64 x.m.id, .slice A x.m.gs.length c, .int .i64 x.m.tp, .string x.m.key, .string x.m.body, .int .i64 x.t, .bool x.f]).alloc (.cells #[.int .i64 0, .int .i64 0] 46))
 have Y := h! (Box.new_at (w := w.alloc (.cells #[.int .i64 x.m.id, .slice A x.m.gs.length c, .int .i64 x.m.tp, .string x.m.key, .string x.m.body, .int .i64 x.t, .bool x.f] 78)) (t := 46) (cs := #[.int .i64 0, .int .i64 0]) (w.heap.size + 1) (by simp))
 obtain ⟨⟨mi, mg, mt, mk, mb⟩, t, f⟩ := x
 unfold vwt
 simp only at HB X Y ⊢
 go_enter Tryz.func138, Tryz.ntmps138
 go_upto_region 1 with (fail)
 generalize (w.alloc (.cells #[.int .i64 mi, .slice A mg.length c, .int .i64 mt, .string mk, .string mb, .int .i64 t, .bool f] 78)).alloc (.cells #[.int .i64 0, .int .i64 0] 46) = w1 at HB X Y ⊢
 obtain ⟨g0, hg0⟩ : ∃ g0, w.heap.size = g0 := ⟨_, rfl⟩
 rw [hg0] at X Y
 simp only [hg0]
 have HG := h! hg0
 clear hg0
 obtain ⟨x0, x1, x2, x3, x4, x5, x6⟩ := box_wt X.out
 have y0 := Y.out.cell 0
 have y1 := Y.out.cell 1
 have f0 := Y.out.frozen 0
 have f1 := Y.out.frozen 1
 simp at y0 y1
 have Z := h! (Y.out.put (.int .i64 t) (.int .i64 mi))
 go_wp2_with fail
 obtain ⟨z0, z1⟩ := box_two Z.out
 exact bodyPost_ret (v := .agg #[.int .i64 t, .int .i64 mi]) (by simp [results, Tryz.results138, go_sem, z0, z1]; try rfl) rfl ⟨rfl, below_put HB.out (by have := HG.out; omega) _ _⟩
def ordS (a b : Sp) : Int := if TM.less a b = true then -1 else if TM.less b a = true then 1 else 0
theorem ordS_neg {a b : Sp} : ordS a b < 0 ↔ TM.less a b = true := by
 unfold ordS
 split
 ·rename_i h; simp [h]
 ·rename_i h
  constructor
  ·intro h2; split at h2 <;> omega
  ·intro h2; exact absurd h2 h
set_option maxHeartbeats 4000000 in
theorem pinOrder_any (A B : Option Addr) (c d : Nat) (x y : Wt) (w : World) : Calls Tryz.prog 108 #[vwt A c x, vwt B d y] w (IsN (ordS (KM.stp x) (KM.stp y)) w) := by
 have HF := h! (show ordS (KM.stp x) (KM.stp y) = if TM.less (KM.stp x) (KM.stp y) = true then -1 else if TM.less (KM.stp y) (KM.stp x) = true then 1 else 0 from rfl)
 obtain ⟨r, hr⟩ : ∃ r, r = ordS (KM.stp x) (KM.stp y) := ⟨_, rfl⟩
 rw [← hr] at HF ⊢
 clear hr
 have C1 := h! (fun w => pstampOf_any A c x w)
 have C2 := h! (fun w => pstampOf_any B d y w)
 have C3 := h! (fun w => pless_any (KM.stp x) (KM.stp y) w)
 have C4 := h! (fun w => pless_any (KM.stp y) (KM.stp x) w)
 generalize TM.less (KM.stp x) (KM.stp y) = l1 at HF C3
 generalize TM.less (KM.stp y) (KM.stp x) = l2 at HF C4
 obtain ⟨⟨xi, xg, xt, xk, xb⟩, xm, xf⟩ := x
 obtain ⟨⟨yi, yg, yt, yk, yb⟩, ym, yf⟩ := y
 unfold vwt at C1 C2 ⊢
 unfold KM.stp at C1 C2 C3 C4
 unfold vsp at C3 C4
 simp only at C1 C2 C3 C4 ⊢
 have HB := h! (show Below w.heap.size w ((w.alloc (.cells #[.int .i64 xi, .slice A xg.length c, .int .i64 xt, .string xk, .string xb, .int .i64 xm, .bool xf] 78)).alloc (.cells #[.int .i64 yi, .slice B yg.length d, .int .i64 yt, .string yk, .string yb, .int .i64 ym, .bool yf] 78)) from ((Below.refl _ _).alloc n! _).alloc (by simp) _)
 have X := h! ((Box.new w 78 #[.int .i64 xi, .slice A xg.length c, .int .i64 xt, .string xk, .string xb, .int .i64 xm, .bool xf]).alloc (.cells #[.int .i64 yi, .slice B yg.length d, .int .i64 yt, .string yk, .string yb, .int .i64 ym, .bool yf] 78))
 have Y := h! (Box.new_at (w := w.alloc (.cells #[.int .i64 xi, .slice A xg.length c, .int .i64 xt, .string xk, .string xb, .int .i64 xm, .bool xf] 78)) (t := 78) (cs := #[.int .i64 yi, .slice B yg.length d, .int .i64 yt, .string yk, .string yb, .int .i64 ym, .bool yf]) (w.heap.size + 1) (by simp))
 go_enter Tryz.func108, Tryz.ntmps108
 go_upto_region 1 with (fail)
 generalize (w.alloc (.cells #[.int .i64 xi, .slice A xg.length c, .int .i64 xt, .string xk, .string xb, .int .i64 xm, .bool xf] 78)).alloc (.cells #[.int .i64 yi, .slice B yg.length d, .int .i64 yt, .string yk, .string yb, .int .i64 ym, .bool yf] 78) = w1 at HB X Y ⊢
 generalize w.heap.size + 1 = p3 at Y ⊢
 obtain ⟨p2, hp2⟩ : ∃ p2, w.heap.size = p2 := ⟨_, rfl⟩
 rw [hp2] at X
 simp only [hp2]
 clear hp2
 obtain ⟨a0, a1, a2, a3, a4, a5, a6⟩ := box_wt X.out
 obtain ⟨b0, b1, b2, b3, b4, b5, b6⟩ := box_wt Y.out
 have HSS := h! (fun (w' : World) (h : Below w1.heap.size w1 w') => show w'.cell? ⟨p2, 0, none⟩ = some (.int .i64 xi) ∧ w'.cell? ⟨p2, 1, none⟩ = some (.slice A xg.length c) ∧ w'.cell? ⟨p2, 2, none⟩ = some (.int .i64 xt) ∧ w'.cell? ⟨p2, 3, none⟩ = some (.string xk) ∧ w'.cell? ⟨p2, 4, none⟩ = some (.string xb) ∧ w'.cell? ⟨p2, 5, none⟩ = some (.int .i64 xm) ∧ w'.cell? ⟨p2, 6, none⟩ = some (.bool xf) ∧ w'.cell? ⟨p3, 0, none⟩ = some (.int .i64 yi) ∧ w'.cell? ⟨p3, 1, none⟩ = some (.slice B yg.length d) ∧ w'.cell? ⟨p3, 2, none⟩ = some (.int .i64 yt) ∧ w'.cell? ⟨p3, 3, none⟩ = some (.string yk) ∧ w'.cell? ⟨p3, 4, none⟩ = some (.string yb) ∧ w'.cell? ⟨p3, 5, none⟩ = some (.int .i64 ym) ∧ w'.cell? ⟨p3, 6, none⟩ = some (.bool yf) from
  ⟨(h.cell (cell_block a0)).trans a0, (h.cell (cell_block a1)).trans a1, (h.cell (cell_block a2)).trans a2, (h.cell (cell_block a3)).trans a3, (h.cell (cell_block a4)).trans a4, (h.cell (cell_block a5)).trans a5, (h.cell (cell_block a6)).trans a6, (h.cell (cell_block b0)).trans b0, (h.cell (cell_block b1)).trans b1, (h.cell (cell_block b2)).trans b2, (h.cell (cell_block b3)).trans b3, (h.cell (cell_block b4)).trans b4, (h.cell (cell_block b5)).trans b5, (h.cell (cell_block b6)).trans b6⟩)
 have bb1 : Below w1.heap.size w1 w1.drew := (Below.refl _ _).drew
 obtain ⟨ud, hud⟩ : ∃ ud, ud = w1.drew := ⟨_, rfl⟩
 refine wp_region_held_drew (S := fun w' => w'.cell? ⟨p2, 0, none⟩ = some (.int .i64 xi) ∧ w'.cell? ⟨p2, 1, none⟩ = some (.slice A xg.length c) ∧ w'.cell? ⟨p2, 2, none⟩ = some (.int .i64 xt) ∧ w'.cell? ⟨p2, 3, none⟩ = some (.string xk) ∧ w'.cell? ⟨p2, 4, none⟩ = some (.string xb) ∧ w'.cell? ⟨p2, 5, none⟩ = some (.int .i64 xm) ∧ w'.cell? ⟨p2, 6, none⟩ = some (.bool xf) ∧ w'.cell? ⟨p3, 0, none⟩ = some (.int .i64 yi) ∧ w'.cell? ⟨p3, 1, none⟩ = some (.slice B yg.length d) ∧ w'.cell? ⟨p3, 2, none⟩ = some (.int .i64 yt) ∧ w'.cell? ⟨p3, 3, none⟩ = some (.string yk) ∧ w'.cell? ⟨p3, 4, none⟩ = some (.string yb) ∧ w'.cell? ⟨p3, 5, none⟩ = some (.int .i64 ym) ∧ w'.cell? ⟨p3, 6, none⟩ = some (.bool yf)) (by kernel_rfl) (HSS.out _ bb1) (fun hHeld => ?_)
 rw [← hud] at bb1 hHeld ⊢
 clear hud
 refine qT 0 ?_; try simp only [Act.put, qq]
 refine qT 2 ?_; try simp only [Act.put, qq]
 refine qR 1 fun K hK => ?_
 go_simp
 refine (C1.out _).mono ?_
 rintro e w3 ⟨rfl, hb⟩
 have bb2 := bmore bb1 hb n!
 clear hb
 unfold vsp
 refine hK.out _ _ (HSS.out _ bb2) (fun hHeld => ?_)
 clear hK
 try simp only [Act.put, qq]
 refine qR 3 fun K hK => ?_
 go_simp
 refine (C2.out _).mono ?_
 rintro e w4 ⟨rfl, hb⟩
 have bb3 := bmore bb2 hb n!
 clear hb
 unfold vsp
 refine hK.out _ _ (HSS.out _ bb3) (fun hHeld => ?_)
 clear hK
 try simp only [Act.put, qq]
 refine qR 4 fun K hK => ?_
 go_simp
 refine (C3.out _).mono ?_
 rintro e w5 ⟨rfl, hb⟩
 have bb4 := bmore bb3 hb n!
 clear hb
 refine hK.out _ _ (HSS.out _ bb4) (fun hHeld => ?_)
 clear hK
 try simp only [Act.put, qq]
 refine qT 5 ?_; try simp only [Act.put, qq]
 refine wpAnyH_done (by kernel_rfl) ?_ _
 clear hHeld HSS
 have HN := h! (bmore HB.out bb4 n!)
 have X2 := h! (X.out.below bb4 X.out.lt)
 have Y2 := h! (Y.out.below bb4 Y.out.lt)
 clear a0 a1 a2 a3 a4 a5 a6 b0 b1 b2 b3 b4 b5 b6
 rcases l1 with _ | _
 ·go_upto_region 3 with (fail)
  obtain ⟨a0, a1, a2, a3, a4, a5, a6⟩ := box_wt X2.out
  obtain ⟨b0, b1, b2, b3, b4, b5, b6⟩ := box_wt Y2.out
  clear bb1 bb2 bb3 bb4 X Y HB
  have HSS := h! (fun (w' : World) (h : Below w5.heap.size w5 w') => show w'.cell? ⟨p2, 0, none⟩ = some (.int .i64 xi) ∧ w'.cell? ⟨p2, 1, none⟩ = some (.slice A xg.length c) ∧ w'.cell? ⟨p2, 2, none⟩ = some (.int .i64 xt) ∧ w'.cell? ⟨p2, 3, none⟩ = some (.string xk) ∧ w'.cell? ⟨p2, 4, none⟩ = some (.string xb) ∧ w'.cell? ⟨p2, 5, none⟩ = some (.int .i64 xm) ∧ w'.cell? ⟨p2, 6, none⟩ = some (.bool xf) ∧ w'.cell? ⟨p3, 0, none⟩ = some (.int .i64 yi) ∧ w'.cell? ⟨p3, 1, none⟩ = some (.slice B yg.length d) ∧ w'.cell? ⟨p3, 2, none⟩ = some (.int .i64 yt) ∧ w'.cell? ⟨p3, 3, none⟩ = some (.string yk) ∧ w'.cell? ⟨p3, 4, none⟩ = some (.string yb) ∧ w'.cell? ⟨p3, 5, none⟩ = some (.int .i64 ym) ∧ w'.cell? ⟨p3, 6, none⟩ = some (.bool yf) from
   ⟨(h.cell (cell_block a0)).trans a0, (h.cell (cell_block a1)).trans a1, (h.cell (cell_block a2)).trans a2, (h.cell (cell_block a3)).trans a3, (h.cell (cell_block a4)).trans a4, (h.cell (cell_block a5)).trans a5, (h.cell (cell_block a6)).trans a6, (h.cell (cell_block b0)).trans b0, (h.cell (cell_block b1)).trans b1, (h.cell (cell_block b2)).trans b2, (h.cell (cell_block b3)).trans b3, (h.cell (cell_block b4)).trans b4, (h.cell (cell_block b5)).trans b5, (h.cell (cell_block b6)).trans b6⟩)
  have bb1 : Below w5.heap.size w5 w5.drew := (Below.refl _ _).drew
  obtain ⟨ud, hud⟩ : ∃ ud, ud = w5.drew := ⟨_, rfl⟩
  refine wp_region_held_drew (S := fun w' => w'.cell? ⟨p2, 0, none⟩ = some (.int .i64 xi) ∧ w'.cell? ⟨p2, 1, none⟩ = some (.slice A xg.length c) ∧ w'.cell? ⟨p2, 2, none⟩ = some (.int .i64 xt) ∧ w'.cell? ⟨p2, 3, none⟩ = some (.string xk) ∧ w'.cell? ⟨p2, 4, none⟩ = some (.string xb) ∧ w'.cell? ⟨p2, 5, none⟩ = some (.int .i64 xm) ∧ w'.cell? ⟨p2, 6, none⟩ = some (.bool xf) ∧ w'.cell? ⟨p3, 0, none⟩ = some (.int .i64 yi) ∧ w'.cell? ⟨p3, 1, none⟩ = some (.slice B yg.length d) ∧ w'.cell? ⟨p3, 2, none⟩ = some (.int .i64 yt) ∧ w'.cell? ⟨p3, 3, none⟩ = some (.string yk) ∧ w'.cell? ⟨p3, 4, none⟩ = some (.string yb) ∧ w'.cell? ⟨p3, 5, none⟩ = some (.int .i64 ym) ∧ w'.cell? ⟨p3, 6, none⟩ = some (.bool yf)) (by kernel_rfl) (HSS.out _ bb1) (fun hHeld => ?_)
  rw [← hud] at bb1 hHeld ⊢
  clear hud
  refine qT 0 ?_; try simp only [Act.put, qq]
  refine qT 2 ?_; try simp only [Act.put, qq]
  refine qR 1 fun K hK => ?_
  go_simp
  refine (C2.out _).mono ?_
  rintro e w3 ⟨rfl, hb⟩
  have bb2 := bmore bb1 hb n!
  clear hb
  unfold vsp
  refine hK.out _ _ (HSS.out _ bb2) (fun hHeld => ?_)
  clear hK
  try simp only [Act.put, qq]
  refine qR 3 fun K hK => ?_
  go_simp
  refine (C1.out _).mono ?_
  rintro e w4 ⟨rfl, hb⟩
  have bb3 := bmore bb2 hb n!
  clear hb
  unfold vsp
  refine hK.out _ _ (HSS.out _ bb3) (fun hHeld => ?_)
  clear hK
  try simp only [Act.put, qq]
  refine qR 4 fun K hK => ?_
  go_simp
  refine (C4.out _).mono ?_
  rintro e w6 ⟨rfl, hb⟩
  have bb4 := bmore bb3 hb n!
  clear hb
  refine hK.out _ _ (HSS.out _ bb4) (fun hHeld => ?_)
  clear hK
  try simp only [Act.put, qq]
  refine qT 5 ?_; try simp only [Act.put, qq]
  refine wpAnyH_done (by kernel_rfl) ?_ _
  clear hHeld HSS
  have HN2 := h! (bmore HN.out bb4 n!)
  rcases l2 with _ | _
  ·go_wp2_with fail
   go_ret
   exact ⟨by rw [HF.out]; rfl, HN2.out⟩
  ·go_wp2_with fail
   go_ret
   exact ⟨by rw [HF.out]; rfl, HN2.out⟩
 ·go_wp2_with fail
  go_ret
  exact ⟨by rw [HF.out]; rfl, HN.out⟩
set_option maxHeartbeats 1000000 in
theorem pcmpId_any (A : Option Addr) (c : Nat) (x : Wt) (id : Int) (w : World) : Calls Tryz.prog 152 #[vwt A c x, .int .i64 id] w (IsN (TM.cmpI x.m.id id) w) := by
 have CC := h! (fun W => compare_any x.m.id id W)
 obtain ⟨⟨xi, xg, xt, xk, xb⟩, xm, xf⟩ := x
 unfold vwt
 simp only at CC ⊢
 have HB := h! (show Below w.heap.size w (w.alloc (.cells #[.int .i64 xi, .slice A xg.length c, .int .i64 xt, .string xk, .string xb, .int .i64 xm, .bool xf] 78)) from (Below.refl _ _).alloc n! _)
 have X := h! (Box.new w 78 #[.int .i64 xi, .slice A xg.length c, .int .i64 xt, .string xk, .string xb, .int .i64 xm, .bool xf])
 go_enter Tryz.func152, Tryz.ntmps152
 go_upto_region 1 with (fail)
 generalize w.alloc (.cells #[.int .i64 xi, .slice A xg.length c, .int .i64 xt, .string xk, .string xb, .int .i64 xm, .bool xf] 78) = w1 at HB X ⊢
 obtain ⟨p2, hp2⟩ : ∃ p2, w.heap.size = p2 := ⟨_, rfl⟩
 rw [hp2] at X
 simp only [hp2]
 clear hp2
 obtain ⟨a0, a1, a2, a3, a4, a5, a6⟩ := box_wt X.out
 go_wp2_with fail
 refine (CC.out _).mono ?_
 rintro e w2 ⟨rfl, rfl⟩
 clear a0 a1 a2 a3 a4 a5 a6
 go_wp2_with fail
 go_ret
 exact ⟨rfl, HB.out⟩
end Go.Proofs.YteebeiaokfenmaaGreat.KP

namespace Go.Proofs.YteebeiaokfenmaaGreat.TP
open Go.RowKit
open TM (Sp)
set_option linter.unusedVariables false
set_option linter.unusedSimpArgs false
set_option maxRecDepth 100000
def SpFit (a : Sp) : Prop := (-9223372036854775808 ≤ a.t ∧ a.t ≤ 9223372036854775807) ∧ (-9223372036854775808 ≤ a.i ∧ a.i ≤ 9223372036854775807)
theorem box_2 {w : World} {g : Nat} {t : TypeId} {a b : Value} (h : Box w g t #[a, b]) : w.cell? ⟨g, 0, none⟩ = some a ∧ w.cell? ⟨g, 1, none⟩ = some b := ⟨h.cell 0, h.cell 1⟩
set_option maxHeartbeats 2000000 in
theorem pcheck_any (a : Sp) (w : World) (hf : SpFit a) : Calls Tryz.prog 148 #[vsp a] w (IsN (TM.chk a) w) := by
 obtain ⟨r, n, y, hof⟩ := TM.ofIs_ex a.i
 have HO := h! (fun w => pof_any hof hf.2.1 hf.2.2 w)
 have hy : (y = 0 ∧ TM.good a.i) ∨ (y = 2 ∧ ¬ TM.good a.i) := by
  rcases hof with ⟨h, _, _, h2⟩ | ⟨h, _, _, h2⟩
  ·exact .inl ⟨h2, h⟩
  ·exact .inr ⟨h2, h⟩
 have HY := h! hy
 clear hy hof hf
 obtain ⟨t, i⟩ := a
 simp only at HO HY
 unfold vsp
 simp only
 have HB := h! (show Below w.heap.size w (w.alloc (.cells #[.int .i64 t, .int .i64 i] 46)) from (Below.refl _ _).alloc n! _)
 have X := h! (Box.new w 46 #[.int .i64 t, .int .i64 i])
 rcases (show t < 0 ∨ (0 ≤ t ∧ 1073741824 < t) ∨ (0 ≤ t ∧ ¬ 1073741824 < t) by omega) with h | ⟨h0, h⟩ | ⟨h0, h⟩
 rotate_right
 ·rcases HY.out with ⟨rfl, hg⟩ | ⟨rfl, hg⟩
  ·rw [show TM.chk ⟨t, i⟩ = 0 from if_pos ⟨h0, by simp only; omega, hg.1, hg.2⟩]
   clear HY hg
   go_enter Tryz.func148, Tryz.ntmps148
   go_upto_region 1 with (fail)
   generalize w.alloc (.cells #[.int .i64 t, .int .i64 i] 46) = w1 at HB X ⊢
   generalize hg : w.heap.size = g at X ⊢
   clear hg
   obtain ⟨x0, x1⟩ := box_2 X.out
   go_wp2_with fail
   refine (HO.out w1).mono ?_
   rintro e w2 ⟨rfl, rfl⟩
   go_wp2_with fail
   go_ret
   exact ⟨rfl, HB.out⟩
  ·rw [show TM.chk ⟨t, i⟩ = 8 from if_neg (fun g => hg ⟨g.2.2.1, g.2.2.2⟩)]
   clear HY hg
   go_enter Tryz.func148, Tryz.ntmps148
   go_upto_region 1 with (fail)
   generalize w.alloc (.cells #[.int .i64 t, .int .i64 i] 46) = w1 at HB X ⊢
   generalize hg : w.heap.size = g at X ⊢
   clear hg
   obtain ⟨x0, x1⟩ := box_2 X.out
   go_wp2_with fail
   refine (HO.out w1).mono ?_
   rintro e w2 ⟨rfl, rfl⟩
   go_wp2_with fail
   go_ret
   exact ⟨rfl, HB.out⟩
 all_goals
  rw [show TM.chk ⟨t, i⟩ = 8 from if_neg (fun g => by unfold TM.ok at g; simp only at g; omega)]
  go_enter Tryz.func148, Tryz.ntmps148
  go_upto_region 1 with (fail)
  generalize w.alloc (.cells #[.int .i64 t, .int .i64 i] 46) = w1 at HB X ⊢
  generalize hg : w.heap.size = g at X ⊢
  clear hg
  obtain ⟨x0, x1⟩ := box_2 X.out
  go_wp2_with fail
  go_ret
  exact ⟨rfl, HB.out⟩
def Seen (l : List Sp) (i : Nat) : Prop := ∀ k a b, k + 1 < i → l[k]? = some a → l[k + 1]? = some b → TM.less a b = true
theorem seen_one (l : List Sp) : Seen l 1 := fun k a b h => absurd h (by omega)
theorem Seen.next {l : List Sp} {i : Nat} {a b : Sp} (h : Seen l i) (h1 : 1 ≤ i) (ha : l[i - 1]? = some a) (hb : l[i]? = some b) (hl : TM.less a b = true) : Seen l (i + 1) := fun k x y hk hx hy => by
 rcases (show k + 1 < i ∨ k + 1 = i by omega) with h2 | h2
 ·exact h k x y h2 hx hy
 ·obtain rfl : k = i - 1 := by omega
  rw [show i - 1 + 1 = i by omega] at hy
  rw [ha] at hx
  rw [hb] at hy
  injection hx with hx
  injection hy with hy
  subst hx hy
  exact hl
theorem Seen.all {l : List Sp} {i : Nat} (h : Seen l i) (hi : l.length ≤ i) : TM.rises l = true := (TM.rises_iff l).2 fun k a b ha hb => h k a b (by have := (List.getElem?_eq_some_iff.1 hb).1; omega) ha hb
theorem seen_no {l : List Sp} {i : Nat} {a b : Sp} (h1 : 1 ≤ i) (ha : l[i - 1]? = some a) (hb : l[i]? = some b) (hl : TM.less a b = false) : TM.rises l = false := by
 rcases h : TM.rises l with _ | _
 ·rfl
 ·have := (TM.rises_iff l).1 h (i - 1) a b ha (by rw [show i - 1 + 1 = i by omega]; exact hb)
  rw [hl] at this
  cases this
set_option maxHeartbeats 4000000 in
theorem prises_any (A : Option Addr) (n c : Nat) (l : List Sp) (w : World) (h : SpsIs w A n c l) : Calls Tryz.prog 28 #[.slice A n c] w (IsB (TM.rises l) w) := by
 have hn := h.small
 have hl := h.2.1
 obtain ⟨r, hr⟩ : ∃ r, r = TM.rises l := ⟨_, rfl⟩
 rw [← hr]
 have HR := h! hr
 have H := h! h
 have HL := h! hl
 clear h hl hr
 go_enter Tryz.func28, Tryz.ntmps28
 go_wp2_with fail
 go_loopw [3] (fun i wr => ∃ k : Nat, 1 ≤ k ∧ k ≤ n + 1 ∧ i = .int .i64 k ∧ Below w.heap.size w wr ∧ Hid (Seen l k)) (fun i _ => n + 1 - (intOf i).toNat)
 case atStart => exact ⟨1, by omega, by omega, rfl, Below.refl _ _, h! (seen_one l)⟩
 case round =>
  obtain ⟨k, hk1, hk, rfl, hB, HSn⟩ := hrel
  have HB := h! hB
  clear hB
  by_cases hlt : k < n
  ·obtain ⟨a, ha⟩ : ∃ a, l[k - 1]? = some a := ⟨_, List.getElem?_eq_getElem (by have := HL.out; omega)⟩
   obtain ⟨b, hb⟩ : ∃ b, l[k]? = some b := ⟨_, List.getElem?_eq_getElem (by have := HL.out; omega)⟩
   have HA := h! ha
   have HBb := h! hb
   obtain ⟨bl, o, rfl, _, _, a0, a1⟩ := (H.out.below HB.out).at_ ha
   obtain ⟨bl', o', e', _, _, b0, b1⟩ := (H.out.below HB.out).at_ hb
   injection e' with e'
   injection e' with e1 e2
   subst e1 e2
   clear ha hb
   obtain ⟨j, hj⟩ : ∃ j, j = k - 1 := ⟨_, rfl⟩
   rw [← hj] at a0 a1 HA
   have hkj : IntKind.i64.wrap ((k : Int) - 1) = (j : Int) := by rw [IntKind.wrap_i64]; omega
   have hk0 : (0 : Int) ≤ (j : Int) := by omega
   have hkn : (j : Int) < (n : Int) := by omega
   have hk2 : (0 : Int) ≤ (k : Int) := by omega
   have hk3 : (k : Int) < (n : Int) := by omega
   have HJ := h! hj
   clear hj
   obtain ⟨q, hq⟩ : ∃ q, q = TM.less a b := ⟨_, rfl⟩
   have HQ := h! hq
   have C := h! (fun w => pless_any a b w)
   rw [← hq] at C
   clear hq
   obtain ⟨at_, ai⟩ := a
   obtain ⟨bt, bi⟩ := b
   unfold vsp at C
   simp only at a0 a1 b0 b1 C
   have HSS := h! (fun (W : World) (h : Below wr.heap.size wr W) => show W.cell? ⟨bl, o + j * 2, none⟩ = some (.int .i64 at_) ∧ W.cell? ⟨bl, o + j * 2 + 1, none⟩ = some (.int .i64 ai) ∧ W.cell? ⟨bl, o + k * 2, none⟩ = some (.int .i64 bt) ∧ W.cell? ⟨bl, o + k * 2 + 1, none⟩ = some (.int .i64 bi) from
    ⟨(h.cell (cell_block a0)).trans a0, (h.cell (cell_block a1)).trans a1, (h.cell (cell_block b0)).trans b0, (h.cell (cell_block b1)).trans b1⟩)
   have bb1 : Below wr.heap.size wr wr.drew := (Below.refl _ _).drew
   go_wp2_with fail
   go_region_held3 (fun W => W.cell? ⟨bl, o + j * 2, none⟩ = some (.int .i64 at_) ∧ W.cell? ⟨bl, o + j * 2 + 1, none⟩ = some (.int .i64 ai) ∧ W.cell? ⟨bl, o + k * 2, none⟩ = some (.int .i64 bt) ∧ W.cell? ⟨bl, o + k * 2 + 1, none⟩ = some (.int .i64 bi))
    (first | exact HSS.out _ bb1 | exact HSS.out _ hb3 | go_keep)
    ((go_at_call 54; refine (C.out _).mono ?_; rintro e w5 ⟨rfl, hb⟩; have hb3 := bmore bb1 hb n!))
   all_goals
    have HN := h! (bmore HB.out hb3 n!)
    clear hb3 hb bb1 HSS a0 a1 b0 b1 C
    rcases q with _ | _
    ·simp only [Bool.not_false]
     have HF := h! (show r = false by
      rw [HR.out]
      exact seen_no hk1 (by rw [← HJ.out]; exact HA.out) HBb.out HQ.out.symm)
     go_wp2_with fail
     go_ret
     exact ⟨by rw [HF.out]; rfl, HN.out⟩
    ·simp only [Bool.not_true]
     have HF := h! (HSn.out.next hk1 (by rw [← HJ.out]; exact HA.out) HBb.out HQ.out.symm)
     go_wp2_with fail
     go_roundw
     case rel => exact ⟨k + 1, by omega, by omega, by go_num, HN.out, HF⟩
     case measure => simp [intOf]; omega
  ·go_wp2_with fail
   go_ret
   exact ⟨by rw [HR.out, HSn.out.all (by have := HL.out; omega)]; rfl, HB.out⟩
end Go.Proofs.YteebeiaokfenmaaGreat.TP

namespace Go.Proofs.YteebeiaokfenmaaGreat.KP
open Go.RowKit CP TP
open CM (Mg Cm)
open TM (Sp)
open KM (Wt Sk)
set_option linter.unusedVariables false
set_option linter.unusedSimpArgs false
set_option maxRecDepth 100000
set_option maxHeartbeats 4000000 in
theorem psameWait_any (A B : Option Addr) (c d : Nat) (x y : Wt) (w : World) (hx : RowIs w A c x.m.gs) (hy : RowIs w B d y.m.gs) : Calls Tryz.prog 111 #[vwt A c x, vwt B d y] w (IsB (decide (x = y)) w) := by
 have CS := h! (fun W (hb : Below w.heap.size w W) => psameMg_any x.m y.m (.agg (mcells A c x.m)) (.agg (mcells B d y.m)) W ⟨A, c, rfl, hx.below hb⟩ ⟨B, d, rfl, hy.below hb⟩)
 obtain ⟨r, hr⟩ : ∃ r, r = decide (x = y) := ⟨_, rfl⟩
 obtain ⟨s, hs⟩ : ∃ s, s = decide (x.m = y.m) := ⟨_, rfl⟩
 rw [← hr]
 rw [← hs] at CS
 have HR := h! (show r = (s && decide (x.t = y.t) && decide (x.f = y.f)) from by
  obtain ⟨xm, xt, xf⟩ := x
  obtain ⟨ym, yt, yf⟩ := y
  rw [hr, hs, Bool.eq_iff_iff]
  simp [and_assoc])
 clear hr hs hx hy
 obtain ⟨⟨xi, xg, xt, xk, xb⟩, xm, xf⟩ := x
 obtain ⟨⟨yi, yg, yt, yk, yb⟩, ym, yf⟩ := y
 unfold mcells at CS
 unfold vwt
 simp only at CS HR ⊢
 have HB := h! (show Below w.heap.size w ((w.alloc (.cells #[.int .i64 xi, .slice A xg.length c, .int .i64 xt, .string xk, .string xb, .int .i64 xm, .bool xf] 78)).alloc (.cells #[.int .i64 yi, .slice B yg.length d, .int .i64 yt, .string yk, .string yb, .int .i64 ym, .bool yf] 78)) from ((Below.refl _ _).alloc n! _).alloc (by simp) _)
 have X := h! ((Box.new w 78 #[.int .i64 xi, .slice A xg.length c, .int .i64 xt, .string xk, .string xb, .int .i64 xm, .bool xf]).alloc (.cells #[.int .i64 yi, .slice B yg.length d, .int .i64 yt, .string yk, .string yb, .int .i64 ym, .bool yf] 78))
 have Y := h! (Box.new_at (w := w.alloc (.cells #[.int .i64 xi, .slice A xg.length c, .int .i64 xt, .string xk, .string xb, .int .i64 xm, .bool xf] 78)) (t := 78) (cs := #[.int .i64 yi, .slice B yg.length d, .int .i64 yt, .string yk, .string yb, .int .i64 ym, .bool yf]) (w.heap.size + 1) (by simp))
 go_enter Tryz.func111, Tryz.ntmps111
 go_upto_region 1 with (fail)
 generalize (w.alloc (.cells #[.int .i64 xi, .slice A xg.length c, .int .i64 xt, .string xk, .string xb, .int .i64 xm, .bool xf] 78)).alloc (.cells #[.int .i64 yi, .slice B yg.length d, .int .i64 yt, .string yk, .string yb, .int .i64 ym, .bool yf] 78) = w1 at HB X Y ⊢
 generalize w.heap.size + 1 = p3 at Y ⊢
 obtain ⟨p2, hp2⟩ : ∃ p2, w.heap.size = p2 := ⟨_, rfl⟩
 rw [hp2] at X
 simp only [hp2]
 clear hp2
 obtain ⟨a0, a1, a2, a3, a4, a5, a6⟩ := box_wt X.out
 obtain ⟨b0, b1, b2, b3, b4, b5, b6⟩ := box_wt Y.out
 go_wp2_with fail
 refine (CS.out _ HB.out).mono ?_
 rintro e w2 ⟨rfl, hb⟩
 have HB2 := h! (bmore HB.out hb n!)
 have X2 := h! (X.out.below hb X.out.lt)
 have Y2 := h! (Y.out.below hb Y.out.lt)
 clear hb a0 a1 a2 a3 a4 a5 a6 b0 b1 b2 b3 b4 b5 b6 CS X Y
 obtain ⟨a0, a1, a2, a3, a4, a5, a6⟩ := box_wt X2.out
 obtain ⟨b0, b1, b2, b3, b4, b5, b6⟩ := box_wt Y2.out
 rcases s with _ | _
 ·have e : r = false := by rw [HR.out]; rfl
  subst e
  go_wp2_with fail
  go_ret
  exact ⟨rfl, HB2.out⟩
 by_cases h1 : xm = ym
 rotate_left
 ·have e : r = false := by rw [HR.out]; simp [h1]
  subst e
  have h2 : (xm == ym) = false := by simpa using h1
  go_wp2_with fail
  go_ret
  exact ⟨rfl, HB2.out⟩
 subst h1
 by_cases h1 : xf = yf
 ·have e : r = true := by rw [HR.out]; simp [h1]
  subst e
  subst h1
  go_wp2_with fail
  go_ret
  exact ⟨by simp, HB2.out⟩
 ·have e : r = false := by rw [HR.out]; simp [h1]
  subst e
  have h2 : (xf == yf) = false := by simpa using h1
  go_wp2_with fail
  go_ret
  exact ⟨by simp [h2], HB2.out⟩
set_option maxHeartbeats 8000000 in
theorem equalW_any (A B : Option Addr) (n m ca cb : Nat) (l r : List Wt) (w : World) (h1 : KR KW w A n ca l) (h2 : KR KW w B m cb r) :
  Calls Tryz.prog 110 #[.slice A n ca, .slice B m cb, .func (.func 111) #[] #[]] w (IsB (decide (l = r)) w) := by
 obtain ⟨x, hx⟩ : ∃ x, x = decide (l = r) := ⟨_, rfl⟩
 rw [← hx]
 have HX := h! hx
 have HL := h! h1.len
 have HR := h! h2.len
 have hn63 := h1.small
 have hm63 := h2.small
 have H1 := h! (fun W (hb : Below w.heap.size w W) => h1.below hb)
 have H2 := h! (fun W (hb : Below w.heap.size w W) => h2.below hb)
 clear hx h1 h2
 by_cases hnm : n = m
 rotate_left
 ·have e : x = false := by
   rw [HX.out, decide_eq_false_iff_not]
   intro h
   have := HL.out
   have := HR.out
   rw [h] at *
   omega
  subst e
  have h3 : ¬ ((n : Int) = (m : Int)) := by omega
  have h4 : ((n : Int) == (m : Int)) = false := by simpa using h3
  go_enter Tryz.func110, Tryz.ntmps110
  go_wp2_with fail
  go_ret
  exact ⟨rfl, Below.refl _ _⟩
 subst hnm
 go_enter Tryz.func110, Tryz.ntmps110
 go_wp2_with fail
 go_loopw [17] (fun i wr => ∃ k : Nat, k ≤ n ∧ i = .int .i64 k ∧ Hid (Below w.heap.size w wr) ∧ Hid (l.take k = r.take k)) (fun i _ => n - (intOf i).toNat)
 case atStart => exact ⟨0, Nat.zero_le _, rfl, h! (Below.refl _ _), h! (by simp)⟩
 case round =>
  obtain ⟨k, hk, rfl, HB, HK⟩ := hrel
  by_cases hlt : k < n
  ·obtain ⟨x1, hx1⟩ : ∃ y, l[k]? = some y := ⟨_, List.getElem?_eq_getElem (by have := HL.out; omega)⟩
   obtain ⟨y1, hy1⟩ : ∃ y, r[k]? = some y := ⟨_, List.getElem?_eq_getElem (by have := HR.out; omega)⟩
   have HU := h! hx1
   have HV := h! hy1
   obtain ⟨bl, o, Q1, q1, rfl, _, _, hat1, hr1⟩ := wts_at (H1.out _ HB.out) hx1
   obtain ⟨bl2, o2, Q2, q2, rfl, _, _, hat2, hr2⟩ := wts_at (H2.out _ HB.out) hy1
   have CW := h! (fun W (hb : Below wr.heap.size wr W) => psameWait_any Q1 Q2 q1 q2 x1 y1 W (hr1.below hb) (hr2.below hb))
   obtain ⟨s, hs⟩ : ∃ s, s = decide (x1 = y1) := ⟨_, rfl⟩
   rw [← hs] at CW
   have HS := h! hs
   clear hx1 hy1 hr1 hr2 hs
   have hk0 : (0 : Int) ≤ (k : Int) := by omega
   have hkn : (k : Int) < (n : Int) := by omega
   obtain ⟨⟨xi, xg, xt, xk, xb⟩, xm, xf⟩ := x1
   obtain ⟨⟨yi, yg, yt, yk, yb⟩, ym, yf⟩ := y1
   unfold vwt at CW
   obtain ⟨a0, a1, a2, a3, a4, a5, a6⟩ := hat1
   obtain ⟨b0, b1, b2, b3, b4, b5, b6⟩ := hat2
   simp only at a0 a1 a2 a3 a4 a5 a6 b0 b1 b2 b3 b4 b5 b6 CW
   go_upto_region 7 with (fail)
   have hal : Below wr.heap.size wr ((wr.alloc (.cells #[.int .i64 xi, .slice Q1 xg.length q1, .int .i64 xt, .string xk, .string xb, .int .i64 xm, .bool xf] 78)).alloc (.cells #[.int .i64 yi, .slice Q2 yg.length q2, .int .i64 yt, .string yk, .string yb, .int .i64 ym, .bool yf] 78)) := ((Below.refl _ _).alloc n! _).alloc (by simp) _
   have HB2 := h! (bmore HB.out hal n!)
   have X := h! ((Box.new wr 78 #[.int .i64 xi, .slice Q1 xg.length q1, .int .i64 xt, .string xk, .string xb, .int .i64 xm, .bool xf]).alloc (.cells #[.int .i64 yi, .slice Q2 yg.length q2, .int .i64 yt, .string yk, .string yb, .int .i64 ym, .bool yf] 78))
   have Y := h! (Box.new_at (w := wr.alloc (.cells #[.int .i64 xi, .slice Q1 xg.length q1, .int .i64 xt, .string xk, .string xb, .int .i64 xm, .bool xf] 78)) (t := 78) (cs := #[.int .i64 yi, .slice Q2 yg.length q2, .int .i64 yt, .string yk, .string yb, .int .i64 ym, .bool yf]) (wr.heap.size + 1) (by simp))
   have CW2 := h! (CW.out _ hal)
   clear hal CW a0 a1 a2 a3 a4 a5 a6 b0 b1 b2 b3 b4 b5 b6
   generalize (wr.alloc (.cells #[.int .i64 xi, .slice Q1 xg.length q1, .int .i64 xt, .string xk, .string xb, .int .i64 xm, .bool xf] 78)).alloc (.cells #[.int .i64 yi, .slice Q2 yg.length q2, .int .i64 yt, .string yk, .string yb, .int .i64 ym, .bool yf] 78) = w1 at HB2 X Y CW2 ⊢
   generalize wr.heap.size + 1 = p9 at Y ⊢
   obtain ⟨p8, hp8⟩ : ∃ p8, wr.heap.size = p8 := ⟨_, rfl⟩
   rw [hp8] at X
   simp only [hp8]
   clear hp8
   obtain ⟨a0, a1, a2, a3, a4, a5, a6⟩ := box_wt X.out
   obtain ⟨b0, b1, b2, b3, b4, b5, b6⟩ := box_wt Y.out
   go_wp2_with fail
   refine (CW2.out).mono ?_
   rintro e w2 ⟨rfl, hb⟩
   have HB3 := h! (bmore HB2.out hb n!)
   clear hb CW2 a0 a1 a2 a3 a4 a5 a6 b0 b1 b2 b3 b4 b5 b6
   rcases s with _ | _
   ·have e : x = false := by
     rw [HX.out, decide_eq_false_iff_not]
     exact ne_at HU.out HV.out (of_decide_eq_false HS.out.symm)
    subst e
    go_wp2_with fail
    go_ret
    exact ⟨rfl, HB3.out⟩
   ·have e := of_decide_eq_true HS.out.symm
    have NX := h! (take_more HK.out HU.out (by rw [e]; exact HV.out))
    clear e
    go_wp2_with fail
    go_roundw
    case rel => exact ⟨k + 1, by omega, by go_num, HB3, NX⟩
    case measure => simp [intOf]; omega
  ·have e : x = true := by
    rw [HX.out, decide_eq_true_eq]
    have hk2 : k = n := by omega
    subst hk2
    exact take_all HK.out HL.out HR.out
   subst e
   go_wp2_with fail
   go_ret
   exact ⟨rfl, HB.out⟩
set_option maxHeartbeats 4000000 in
theorem equalD_any (A B : Option Addr) (n m ca cb : Nat) (l r : List Sp) (w : World) (h1 : SpsIs w A n ca l) (h2 : SpsIs w B m cb r) :
  Calls Tryz.prog 44 #[.slice A n ca, .slice B m cb] w (IsB (decide (l = r)) w) := by
 obtain ⟨x, hx⟩ : ∃ x, x = decide (l = r) := ⟨_, rfl⟩
 rw [← hx]
 have HX := h! hx
 have HL := h! h1.2.1
 have HR := h! h2.2.1
 have hn63 := h1.small
 have hm63 := h2.small
 have H1 := h! (fun W (hb : Below w.heap.size w W) => h1.below hb)
 have H2 := h! (fun W (hb : Below w.heap.size w W) => h2.below hb)
 clear hx h1 h2
 by_cases hnm : n = m
 rotate_left
 ·have e : x = false := by
   rw [HX.out, decide_eq_false_iff_not]
   intro h
   have := HL.out
   have := HR.out
   rw [h] at *
   omega
  subst e
  have h3 : ¬ ((n : Int) = (m : Int)) := by omega
  have h4 : ((n : Int) == (m : Int)) = false := by simpa using h3
  go_enter Tryz.func44, Tryz.ntmps44
  go_wp2_with fail
  go_ret
  exact ⟨rfl, Below.refl _ _⟩
 subst hnm
 go_enter Tryz.func44, Tryz.ntmps44
 go_wp2_with fail
 go_loopw [13] (fun i wr => ∃ k : Nat, k ≤ n ∧ i = .int .i64 k ∧ Hid (Below w.heap.size w wr) ∧ Hid (l.take k = r.take k)) (fun i _ => n - (intOf i).toNat)
 case atStart => exact ⟨0, Nat.zero_le _, rfl, h! (Below.refl _ _), h! (by simp)⟩
 case round =>
  obtain ⟨k, hk, rfl, HB, HK⟩ := hrel
  by_cases hlt : k < n
  ·obtain ⟨x1, hx1⟩ : ∃ y, l[k]? = some y := ⟨_, List.getElem?_eq_getElem (by have := HL.out; omega)⟩
   obtain ⟨y1, hy1⟩ : ∃ y, r[k]? = some y := ⟨_, List.getElem?_eq_getElem (by have := HR.out; omega)⟩
   have HU := h! hx1
   have HV := h! hy1
   obtain ⟨bl, o, rfl, _, _, a0, a1⟩ := (H1.out _ HB.out).at_ hx1
   obtain ⟨bl2, o2, rfl, _, _, b0, b1⟩ := (H2.out _ HB.out).at_ hy1
   clear hx1 hy1
   have hk0 : (0 : Int) ≤ (k : Int) := by omega
   have hkn : (k : Int) < (n : Int) := by omega
   by_cases hxy : x1 = y1
   ·have NX := h! (take_more HK.out HU.out (by rw [hxy]; exact HV.out))
    subst hxy
    clear HU HV
    obtain ⟨xt, xi⟩ := x1
    simp only at a0 a1 b0 b1
    go_wp2_with fail
    go_quiet (fail)
    have HB2 := h! (below_drewN HB.out nq)
    go_wp2_with fail
    go_roundw
    case rel => exact ⟨k + 1, by omega, by go_num, HB2, NX⟩
    case measure => simp [intOf]; omega
   ·have e : x = false := by
     rw [HX.out, decide_eq_false_iff_not]
     exact ne_at HU.out HV.out hxy
    subst e
    clear HU HV
    obtain ⟨xt, xi⟩ := x1
    obtain ⟨yt, yi⟩ := y1
    simp only at a0 a1 b0 b1
    by_cases ht : xt = yt
    ·subst ht
     have hi : (xi == yi) = false := by simp; rintro rfl; exact hxy rfl
     clear hxy
     go_wp2_with fail
     go_quiet (fail)
     have HB2 := h! (below_drewN HB.out nq)
     go_wp2_with fail
     go_ret
     exact ⟨rfl, HB2.out⟩
    ·have hi : (xt == yt) = false := by simpa using ht
     clear hxy ht
     go_wp2_with fail
     go_quiet (fail)
     have HB2 := h! (below_drewN HB.out nq)
     go_wp2_with fail
     go_ret
     exact ⟨rfl, HB2.out⟩
  ·have e : x = true := by
    rw [HX.out, decide_eq_true_eq]
    have hk2 : k = n := by omega
    subst hk2
    exact take_all HK.out HL.out HR.out
   subst e
   go_wp2_with fail
   go_ret
   exact ⟨rfl, HB.out⟩
set_option maxHeartbeats 4000000 in
theorem psame15_any (va vb : Value) (a b : Sk) (w : World) (h1 : SkIs w va a) (h2 : SkIs w vb b) : Calls Tryz.prog 88 #[va, vb] w (IsB (decide (a = b)) w) := by
 obtain ⟨A, ca, B, cb, rfl, r1, d1⟩ := h1
 obtain ⟨C, cc, D, cd, rfl, r2, d2⟩ := h2
 have C1 := h! (fun W (hb : Below w.heap.size w W) => equalW_any A C _ _ ca cc a.ws b.ws W (r1.below hb) (r2.below hb))
 have C2 := h! (fun W (hb : Below w.heap.size w W) => equalD_any B D _ _ cb cd a.ds b.ds W (d1.below hb) (d2.below hb))
 obtain ⟨r, hr⟩ : ∃ r, r = decide (a = b) := ⟨_, rfl⟩
 obtain ⟨s1, hs1⟩ : ∃ s, s = decide (a.ws = b.ws) := ⟨_, rfl⟩
 obtain ⟨s2, hs2⟩ : ∃ s, s = decide (a.ds = b.ds) := ⟨_, rfl⟩
 rw [← hr]
 rw [← hs1] at C1
 rw [← hs2] at C2
 have HR := h! (show r = (decide (a.c = b.c) && s1 && s2) from by
  obtain ⟨c1, w1, d1⟩ := a
  obtain ⟨c2, w2, d2⟩ := b
  rw [hr, hs1, hs2, Bool.eq_iff_iff]
  simp [and_assoc])
 clear hr hs1 hs2 r1 d1 r2 d2
 obtain ⟨ac, aw, ad⟩ := a
 obtain ⟨bc, bw, bd⟩ := b
 unfold vsk
 simp only at C1 C2 HR ⊢
 generalize aw.length = n at C1 ⊢
 generalize ad.length = m at C2 ⊢
 generalize bw.length = p at C1 ⊢
 generalize bd.length = q at C2 ⊢
 have HB := h! (show Below w.heap.size w ((w.alloc (.cells #[.int .i64 ac, .slice A n ca, .slice B m cb] 39)).alloc (.cells #[.int .i64 bc, .slice C p cc, .slice D q cd] 39)) from ((Below.refl _ _).alloc n! _).alloc (by simp) _)
 have X := h! ((Box.new w 39 #[.int .i64 ac, .slice A n ca, .slice B m cb]).alloc (.cells #[.int .i64 bc, .slice C p cc, .slice D q cd] 39))
 have Y := h! (Box.new_at (w := w.alloc (.cells #[.int .i64 ac, .slice A n ca, .slice B m cb] 39)) (t := 39) (cs := #[.int .i64 bc, .slice C p cc, .slice D q cd]) (w.heap.size + 1) (by simp))
 go_enter Tryz.func88, Tryz.ntmps88
 go_upto_region 1 with (fail)
 generalize (w.alloc (.cells #[.int .i64 ac, .slice A n ca, .slice B m cb] 39)).alloc (.cells #[.int .i64 bc, .slice C p cc, .slice D q cd] 39) = w1 at HB X Y ⊢
 generalize w.heap.size + 1 = p3 at Y ⊢
 obtain ⟨p2, hp2⟩ : ∃ p2, w.heap.size = p2 := ⟨_, rfl⟩
 rw [hp2] at X
 simp only [hp2]
 clear hp2
 obtain ⟨x0, x1, x2⟩ := box_sk X.out
 obtain ⟨y0, y1, y2⟩ := box_sk Y.out
 by_cases h1 : ac = bc
 rotate_left
 ·have e : r = false := by rw [HR.out]; simp [h1]
  subst e
  have h2 : (ac == bc) = false := by simpa using h1
  go_wp2_with fail
  go_ret
  exact ⟨rfl, HB.out⟩
 subst h1
 go_wp2_with fail
 refine (C1.out _ HB.out).mono ?_
 rintro e w2 ⟨rfl, hb⟩
 have HB2 := h! (bmore HB.out hb n!)
 have X2 := h! (X.out.below hb X.out.lt)
 have Y2 := h! (Y.out.below hb Y.out.lt)
 clear hb x0 x1 x2 y0 y1 y2 C1
 obtain ⟨x0, x1, x2⟩ := box_sk X2.out
 obtain ⟨y0, y1, y2⟩ := box_sk Y2.out
 rcases s1 with _ | _
 ·have e : r = false := by rw [HR.out]; simp
  subst e
  go_wp2_with fail
  go_ret
  exact ⟨rfl, HB2.out⟩
 go_wp2_with fail
 refine (C2.out _ HB2.out).mono ?_
 rintro e w3 ⟨rfl, hb⟩
 have HB3 := h! (bmore HB2.out hb n!)
 clear hb x0 x1 x2 y0 y1 y2 C2
 go_wp2_with fail
 go_ret
 exact ⟨by rw [HR.out]; simp, HB3.out⟩
end Go.Proofs.YteebeiaokfenmaaGreat.KP

namespace Go.Proofs.YteebeiaokfenmaaGreat.KP
open Go.RowKit CP TP
open CM (Mg Cm)
open TM (Sp)
open KM (Wt Sk)
set_option linter.unusedVariables false
set_option linter.unusedSimpArgs false
set_option maxRecDepth 100000
theorem flat_cut {α : Type} {f : α → List Value} {s : Nat} : ∀ (l : List α) (k : Nat), (∀ a ∈ l, (f a).length = s) → (flat f l).take (k * s) = flat f (l.take k)
 | [], k, _ => by simp [flat]
 | a :: l, 0, _ => by simp [flat]
 | a :: l, k + 1, h => by
  have ha := h a (List.mem_cons_self ..)
  rw [flat_cons, List.take_succ_cons, flat_cons, Nat.add_mul, Nat.one_mul, List.take_append, ha, List.take_of_length_le (by omega), Nat.add_sub_cancel, flat_cut l k (fun b hb => h b (List.mem_cons_of_mem _ hb))]
theorem sps_cut {w : World} {A : Option Addr} {n c k : Nat} {l : List Sp} (h : SpsIs w A n c l) (hk : k ≤ n) : SpsIs w A k c (l.take k) := by
 obtain ⟨⟨h1, h2⟩, h3, h4, h5⟩ := h
 have hl : (l.take k).length = k := by rw [List.length_take]; omega
 have he : flat spc (l.take k) = (flat spc l).take (k * 2) := (flat_cut (f := spc) (s := 2) l k (fun a _ => rfl)).symm
 refine ⟨⟨by rw [flat_length (f := spc) (s := 2) (fun a _ => rfl), hl], fun hp => ?_⟩, hl, by omega, h5⟩
 obtain ⟨ad, e, hb, hc⟩ := h2 (by omega)
 refine ⟨ad, e, hb, fun j u hu => hc j u ?_⟩
 rw [he, List.getElem?_take] at hu
 split at hu
 ·exact hu
 ·cases hu
end Go.Proofs.YteebeiaokfenmaaGreat.KP
