/-
  Package skeen: stampOf, inOrder, the comparison of place. Conditions: none.
  Package skeen: slices.BinarySearchFunc among what waits, and place. Conditions: what waits rises by ids; not many.
  Package skeen: New. Conditions: a clock that reads as one.
  Package skeen: slices.MinFunc over inOrder: the least of what waits, the first one. Conditions: something waits.
-/
import Derived.Test.YteebeiaokfenmaaGreatK01
import Derived.Test.YteebeiaokfenmaaGreatK02
import Derived.Test.YteebeiaokfenmaaGreatK03
namespace Go.Proofs.YteebeiaokfenmaaGreat.KP
open Go.RowKit CP TP
open CM (Mg Cm)
open TM (Sp)
open KM (Wt Sk)
set_option linter.unusedVariables false
set_option linter.unusedSimpArgs false
set_option maxRecDepth 100000
set_option maxHeartbeats 1000000 in
theorem pstampOf_any (A : Option Addr) (c : Nat) (x : Wt) (w : World) : Calls Tryz.prog 138 #[vwt A c x] w (IsSp (KM.stp x) w) := by
  have HB := Lib.hid (show Below w.heap.size w ((w.alloc (.cells #[.int .i64 x.m.id, .slice A x.m.gs.length c, .int .i64 x.m.tp, .string x.m.key, .string x.m.body, .int .i64 x.t, .bool x.f] 78)).alloc (.cells #[.int .i64 0, .int .i64 0] 46)) from ((Below.refl _ _).alloc (Nat.le_refl _) _).alloc (by simp) _)
  have X := Lib.hid ((Box.new w 78 #[.int .i64 x.m.id, .slice A x.m.gs.length c, .int .i64 x.m.tp, .string x.m.key, .string x.m.body, .int .i64 x.t, .bool x.f]).alloc (.cells #[.int .i64 0, .int .i64 0] 46))
  have Y := Lib.hid (Box.new_at (w := w.alloc (.cells #[.int .i64 x.m.id, .slice A x.m.gs.length c, .int .i64 x.m.tp, .string x.m.key, .string x.m.body, .int .i64 x.t, .bool x.f] 78)) (t := 46) (cs := #[.int .i64 0, .int .i64 0]) (w.heap.size + 1) (by simp))
  obtain ⟨⟨mi, mg, mt, mk, mb⟩, t, f⟩ := x
  unfold vwt
  simp only at HB X Y ⊢
  go_enter Tryz.func138, Tryz.ntmps138
  go_upto_region 1 with (fail)
  generalize (w.alloc (.cells #[.int .i64 mi, .slice A mg.length c, .int .i64 mt, .string mk, .string mb, .int .i64 t, .bool f] 78)).alloc (.cells #[.int .i64 0, .int .i64 0] 46) = w1 at HB X Y ⊢
  obtain ⟨g0, hg0⟩ : ∃ g0, w.heap.size = g0 := ⟨_, rfl⟩
  rw [hg0] at X Y
  simp only [hg0]
  have HG := Lib.hid hg0
  clear hg0
  obtain ⟨x0, x1, x2, x3, x4, x5, x6⟩ := box_wt X.out
  have y0 := Y.out.cell 0
  have y1 := Y.out.cell 1
  have f0 := Y.out.frozen 0
  have f1 := Y.out.frozen 1
  simp at y0 y1
  have Z := Lib.hid (Y.out.put (.int .i64 t) (.int .i64 mi))
  go_wp2_with fail
  obtain ⟨z0, z1⟩ := box_two Z.out
  exact bodyPost_ret (v := .agg #[.int .i64 t, .int .i64 mi]) (by simp [results, Tryz.results138, go_sem, z0, z1]; try rfl) rfl ⟨rfl, below_put HB.out (by have := HG.out; omega) _ _⟩
def ordS (a b : Sp) : Int := if TM.less a b = true then -1 else if TM.less b a = true then 1 else 0
theorem ordS_neg {a b : Sp} : ordS a b < 0 ↔ TM.less a b = true := by
  unfold ordS
  split
  · rename_i h; simp [h]
  · rename_i h
    constructor
    · intro h2; split at h2 <;> omega
    · intro h2; exact absurd h2 h
set_option maxHeartbeats 4000000 in
theorem pinOrder_any (A B : Option Addr) (c d : Nat) (x y : Wt) (w : World) : Calls Tryz.prog 108 #[vwt A c x, vwt B d y] w (IsN (ordS (KM.stp x) (KM.stp y)) w) := by
  have HF := Lib.hid (show ordS (KM.stp x) (KM.stp y) = if TM.less (KM.stp x) (KM.stp y) = true then -1 else if TM.less (KM.stp y) (KM.stp x) = true then 1 else 0 from rfl)
  obtain ⟨r, hr⟩ : ∃ r, r = ordS (KM.stp x) (KM.stp y) := ⟨_, rfl⟩
  rw [← hr] at HF ⊢
  clear hr
  have C1 := Lib.hid (fun w => pstampOf_any A c x w)
  have C2 := Lib.hid (fun w => pstampOf_any B d y w)
  have C3 := Lib.hid (fun w => pless_any (KM.stp x) (KM.stp y) w)
  have C4 := Lib.hid (fun w => pless_any (KM.stp y) (KM.stp x) w)
  generalize TM.less (KM.stp x) (KM.stp y) = l1 at HF C3
  generalize TM.less (KM.stp y) (KM.stp x) = l2 at HF C4
  obtain ⟨⟨xi, xg, xt, xk, xb⟩, xm, xf⟩ := x
  obtain ⟨⟨yi, yg, yt, yk, yb⟩, ym, yf⟩ := y
  unfold vwt at C1 C2 ⊢
  unfold KM.stp at C1 C2 C3 C4
  unfold vsp at C3 C4
  simp only at C1 C2 C3 C4 ⊢
  have HB := Lib.hid (show Below w.heap.size w ((w.alloc (.cells #[.int .i64 xi, .slice A xg.length c, .int .i64 xt, .string xk, .string xb, .int .i64 xm, .bool xf] 78)).alloc (.cells #[.int .i64 yi, .slice B yg.length d, .int .i64 yt, .string yk, .string yb, .int .i64 ym, .bool yf] 78)) from ((Below.refl _ _).alloc (Nat.le_refl _) _).alloc (by simp) _)
  have X := Lib.hid ((Box.new w 78 #[.int .i64 xi, .slice A xg.length c, .int .i64 xt, .string xk, .string xb, .int .i64 xm, .bool xf]).alloc (.cells #[.int .i64 yi, .slice B yg.length d, .int .i64 yt, .string yk, .string yb, .int .i64 ym, .bool yf] 78))
  have Y := Lib.hid (Box.new_at (w := w.alloc (.cells #[.int .i64 xi, .slice A xg.length c, .int .i64 xt, .string xk, .string xb, .int .i64 xm, .bool xf] 78)) (t := 78) (cs := #[.int .i64 yi, .slice B yg.length d, .int .i64 yt, .string yk, .string yb, .int .i64 ym, .bool yf]) (w.heap.size + 1) (by simp))
  go_enter Tryz.func108, Tryz.ntmps108
  go_upto_region 1 with (fail)
  generalize (w.alloc (.cells #[.int .i64 xi, .slice A xg.length c, .int .i64 xt, .string xk, .string xb, .int .i64 xm, .bool xf] 78)).alloc (.cells #[.int .i64 yi, .slice B yg.length d, .int .i64 yt, .string yk, .string yb, .int .i64 ym, .bool yf] 78) = w1 at HB X Y ⊢
  generalize w.heap.size + 1 = p3 at Y ⊢
  obtain ⟨p2, hp2⟩ : ∃ p2, w.heap.size = p2 := ⟨_, rfl⟩
  rw [hp2] at X
  simp only [hp2]
  clear hp2
  obtain ⟨a0, a1, a2, a3, a4, a5, a6⟩ := box_wt X.out
  obtain ⟨b0, b1, b2, b3, b4, b5, b6⟩ := box_wt Y.out
  have HSS := Lib.hid (fun (w' : World) (h : Below w1.heap.size w1 w') => show w'.cell? ⟨p2, 0, none⟩ = some (.int .i64 xi) ∧ w'.cell? ⟨p2, 1, none⟩ = some (.slice A xg.length c) ∧ w'.cell? ⟨p2, 2, none⟩ = some (.int .i64 xt) ∧ w'.cell? ⟨p2, 3, none⟩ = some (.string xk) ∧ w'.cell? ⟨p2, 4, none⟩ = some (.string xb) ∧ w'.cell? ⟨p2, 5, none⟩ = some (.int .i64 xm) ∧ w'.cell? ⟨p2, 6, none⟩ = some (.bool xf) ∧ w'.cell? ⟨p3, 0, none⟩ = some (.int .i64 yi) ∧ w'.cell? ⟨p3, 1, none⟩ = some (.slice B yg.length d) ∧ w'.cell? ⟨p3, 2, none⟩ = some (.int .i64 yt) ∧ w'.cell? ⟨p3, 3, none⟩ = some (.string yk) ∧ w'.cell? ⟨p3, 4, none⟩ = some (.string yb) ∧ w'.cell? ⟨p3, 5, none⟩ = some (.int .i64 ym) ∧ w'.cell? ⟨p3, 6, none⟩ = some (.bool yf) from
    ⟨(h.cell (cell_block a0)).trans a0, (h.cell (cell_block a1)).trans a1, (h.cell (cell_block a2)).trans a2, (h.cell (cell_block a3)).trans a3, (h.cell (cell_block a4)).trans a4, (h.cell (cell_block a5)).trans a5, (h.cell (cell_block a6)).trans a6, (h.cell (cell_block b0)).trans b0, (h.cell (cell_block b1)).trans b1, (h.cell (cell_block b2)).trans b2, (h.cell (cell_block b3)).trans b3, (h.cell (cell_block b4)).trans b4, (h.cell (cell_block b5)).trans b5, (h.cell (cell_block b6)).trans b6⟩)
  have bb1 : Below w1.heap.size w1 w1.drew := (Below.refl _ _).drew
  obtain ⟨ud, hud⟩ : ∃ ud, ud = w1.drew := ⟨_, rfl⟩
  refine wp_region_held_drew (S := fun w' => w'.cell? ⟨p2, 0, none⟩ = some (.int .i64 xi) ∧ w'.cell? ⟨p2, 1, none⟩ = some (.slice A xg.length c) ∧ w'.cell? ⟨p2, 2, none⟩ = some (.int .i64 xt) ∧ w'.cell? ⟨p2, 3, none⟩ = some (.string xk) ∧ w'.cell? ⟨p2, 4, none⟩ = some (.string xb) ∧ w'.cell? ⟨p2, 5, none⟩ = some (.int .i64 xm) ∧ w'.cell? ⟨p2, 6, none⟩ = some (.bool xf) ∧ w'.cell? ⟨p3, 0, none⟩ = some (.int .i64 yi) ∧ w'.cell? ⟨p3, 1, none⟩ = some (.slice B yg.length d) ∧ w'.cell? ⟨p3, 2, none⟩ = some (.int .i64 yt) ∧ w'.cell? ⟨p3, 3, none⟩ = some (.string yk) ∧ w'.cell? ⟨p3, 4, none⟩ = some (.string yb) ∧ w'.cell? ⟨p3, 5, none⟩ = some (.int .i64 ym) ∧ w'.cell? ⟨p3, 6, none⟩ = some (.bool yf)) (by kernel_rfl) (HSS.out _ bb1) (fun hHeld => ?_)
  rw [← hud] at bb1 hHeld ⊢
  clear hud
  refine qT 0 ?_; try simp only [Act.put, qq]
  refine qT 2 ?_; try simp only [Act.put, qq]
  refine wpAnyH_ready (rs := [1]) (by kernel_rfl) (by simp) ?_
  refine AllReadyH.cons rfl (fun K hK => ?_) AllReadyH.nil
  go_simp
  refine (C1.out _).mono ?_
  rintro e w3 ⟨rfl, hb⟩
  have bb2 := bmore bb1 hb (Nat.le_refl _)
  clear hb
  unfold vsp
  refine hK.out _ _ (HSS.out _ bb2) (fun hHeld => ?_)
  clear hK
  try simp only [Act.put, qq]
  refine wpAnyH_ready (rs := [3]) (by kernel_rfl) (by simp) ?_
  refine AllReadyH.cons rfl (fun K hK => ?_) AllReadyH.nil
  go_simp
  refine (C2.out _).mono ?_
  rintro e w4 ⟨rfl, hb⟩
  have bb3 := bmore bb2 hb (Nat.le_refl _)
  clear hb
  unfold vsp
  refine hK.out _ _ (HSS.out _ bb3) (fun hHeld => ?_)
  clear hK
  try simp only [Act.put, qq]
  refine wpAnyH_ready (rs := [4]) (by kernel_rfl) (by simp) ?_
  refine AllReadyH.cons rfl (fun K hK => ?_) AllReadyH.nil
  go_simp
  refine (C3.out _).mono ?_
  rintro e w5 ⟨rfl, hb⟩
  have bb4 := bmore bb3 hb (Nat.le_refl _)
  clear hb
  refine hK.out _ _ (HSS.out _ bb4) (fun hHeld => ?_)
  clear hK
  try simp only [Act.put, qq]
  refine qT 5 ?_; try simp only [Act.put, qq]
  refine wpAnyH_done (by kernel_rfl) ?_ _
  clear hHeld HSS
  have HN := Lib.hid (bmore HB.out bb4 (Nat.le_refl _))
  have X2 := Lib.hid (X.out.below bb4 X.out.lt)
  have Y2 := Lib.hid (Y.out.below bb4 Y.out.lt)
  clear a0 a1 a2 a3 a4 a5 a6 b0 b1 b2 b3 b4 b5 b6
  rcases l1 with _ | _
  · go_upto_region 3 with (fail)
    obtain ⟨a0, a1, a2, a3, a4, a5, a6⟩ := box_wt X2.out
    obtain ⟨b0, b1, b2, b3, b4, b5, b6⟩ := box_wt Y2.out
    clear bb1 bb2 bb3 bb4 X Y HB
    have HSS := Lib.hid (fun (w' : World) (h : Below w5.heap.size w5 w') => show w'.cell? ⟨p2, 0, none⟩ = some (.int .i64 xi) ∧ w'.cell? ⟨p2, 1, none⟩ = some (.slice A xg.length c) ∧ w'.cell? ⟨p2, 2, none⟩ = some (.int .i64 xt) ∧ w'.cell? ⟨p2, 3, none⟩ = some (.string xk) ∧ w'.cell? ⟨p2, 4, none⟩ = some (.string xb) ∧ w'.cell? ⟨p2, 5, none⟩ = some (.int .i64 xm) ∧ w'.cell? ⟨p2, 6, none⟩ = some (.bool xf) ∧ w'.cell? ⟨p3, 0, none⟩ = some (.int .i64 yi) ∧ w'.cell? ⟨p3, 1, none⟩ = some (.slice B yg.length d) ∧ w'.cell? ⟨p3, 2, none⟩ = some (.int .i64 yt) ∧ w'.cell? ⟨p3, 3, none⟩ = some (.string yk) ∧ w'.cell? ⟨p3, 4, none⟩ = some (.string yb) ∧ w'.cell? ⟨p3, 5, none⟩ = some (.int .i64 ym) ∧ w'.cell? ⟨p3, 6, none⟩ = some (.bool yf) from
      ⟨(h.cell (cell_block a0)).trans a0, (h.cell (cell_block a1)).trans a1, (h.cell (cell_block a2)).trans a2, (h.cell (cell_block a3)).trans a3, (h.cell (cell_block a4)).trans a4, (h.cell (cell_block a5)).trans a5, (h.cell (cell_block a6)).trans a6, (h.cell (cell_block b0)).trans b0, (h.cell (cell_block b1)).trans b1, (h.cell (cell_block b2)).trans b2, (h.cell (cell_block b3)).trans b3, (h.cell (cell_block b4)).trans b4, (h.cell (cell_block b5)).trans b5, (h.cell (cell_block b6)).trans b6⟩)
    have bb1 : Below w5.heap.size w5 w5.drew := (Below.refl _ _).drew
    obtain ⟨ud, hud⟩ : ∃ ud, ud = w5.drew := ⟨_, rfl⟩
    refine wp_region_held_drew (S := fun w' => w'.cell? ⟨p2, 0, none⟩ = some (.int .i64 xi) ∧ w'.cell? ⟨p2, 1, none⟩ = some (.slice A xg.length c) ∧ w'.cell? ⟨p2, 2, none⟩ = some (.int .i64 xt) ∧ w'.cell? ⟨p2, 3, none⟩ = some (.string xk) ∧ w'.cell? ⟨p2, 4, none⟩ = some (.string xb) ∧ w'.cell? ⟨p2, 5, none⟩ = some (.int .i64 xm) ∧ w'.cell? ⟨p2, 6, none⟩ = some (.bool xf) ∧ w'.cell? ⟨p3, 0, none⟩ = some (.int .i64 yi) ∧ w'.cell? ⟨p3, 1, none⟩ = some (.slice B yg.length d) ∧ w'.cell? ⟨p3, 2, none⟩ = some (.int .i64 yt) ∧ w'.cell? ⟨p3, 3, none⟩ = some (.string yk) ∧ w'.cell? ⟨p3, 4, none⟩ = some (.string yb) ∧ w'.cell? ⟨p3, 5, none⟩ = some (.int .i64 ym) ∧ w'.cell? ⟨p3, 6, none⟩ = some (.bool yf)) (by kernel_rfl) (HSS.out _ bb1) (fun hHeld => ?_)
    rw [← hud] at bb1 hHeld ⊢
    clear hud
    refine qT 0 ?_; try simp only [Act.put, qq]
    refine qT 2 ?_; try simp only [Act.put, qq]
    refine wpAnyH_ready (rs := [1]) (by kernel_rfl) (by simp) ?_
    refine AllReadyH.cons rfl (fun K hK => ?_) AllReadyH.nil
    go_simp
    refine (C2.out _).mono ?_
    rintro e w3 ⟨rfl, hb⟩
    have bb2 := bmore bb1 hb (Nat.le_refl _)
    clear hb
    unfold vsp
    refine hK.out _ _ (HSS.out _ bb2) (fun hHeld => ?_)
    clear hK
    try simp only [Act.put, qq]
    refine wpAnyH_ready (rs := [3]) (by kernel_rfl) (by simp) ?_
    refine AllReadyH.cons rfl (fun K hK => ?_) AllReadyH.nil
    go_simp
    refine (C1.out _).mono ?_
    rintro e w4 ⟨rfl, hb⟩
    have bb3 := bmore bb2 hb (Nat.le_refl _)
    clear hb
    unfold vsp
    refine hK.out _ _ (HSS.out _ bb3) (fun hHeld => ?_)
    clear hK
    try simp only [Act.put, qq]
    refine wpAnyH_ready (rs := [4]) (by kernel_rfl) (by simp) ?_
    refine AllReadyH.cons rfl (fun K hK => ?_) AllReadyH.nil
    go_simp
    refine (C4.out _).mono ?_
    rintro e w6 ⟨rfl, hb⟩
    have bb4 := bmore bb3 hb (Nat.le_refl _)
    clear hb
    refine hK.out _ _ (HSS.out _ bb4) (fun hHeld => ?_)
    clear hK
    try simp only [Act.put, qq]
    refine qT 5 ?_; try simp only [Act.put, qq]
    refine wpAnyH_done (by kernel_rfl) ?_ _
    clear hHeld HSS
    have HN2 := Lib.hid (bmore HN.out bb4 (Nat.le_refl _))
    rcases l2 with _ | _
    · go_wp2_with fail
      go_ret
      exact ⟨by rw [HF.out]; rfl, HN2.out⟩
    · go_wp2_with fail
      go_ret
      exact ⟨by rw [HF.out]; rfl, HN2.out⟩
  · go_wp2_with fail
    go_ret
    exact ⟨by rw [HF.out]; rfl, HN.out⟩
set_option maxHeartbeats 1000000 in
theorem pcmpId_any (A : Option Addr) (c : Nat) (x : Wt) (id : Int) (w : World) : Calls Tryz.prog 152 #[vwt A c x, .int .i64 id] w (IsN (TM.cmpI x.m.id id) w) := by
  have CC := Lib.hid (fun W => compare_any x.m.id id W)
  obtain ⟨⟨xi, xg, xt, xk, xb⟩, xm, xf⟩ := x
  unfold vwt
  simp only at CC ⊢
  have HB := Lib.hid (show Below w.heap.size w (w.alloc (.cells #[.int .i64 xi, .slice A xg.length c, .int .i64 xt, .string xk, .string xb, .int .i64 xm, .bool xf] 78)) from (Below.refl _ _).alloc (Nat.le_refl _) _)
  have X := Lib.hid (Box.new w 78 #[.int .i64 xi, .slice A xg.length c, .int .i64 xt, .string xk, .string xb, .int .i64 xm, .bool xf])
  go_enter Tryz.func152, Tryz.ntmps152
  go_upto_region 1 with (fail)
  generalize w.alloc (.cells #[.int .i64 xi, .slice A xg.length c, .int .i64 xt, .string xk, .string xb, .int .i64 xm, .bool xf] 78) = w1 at HB X ⊢
  obtain ⟨p2, hp2⟩ : ∃ p2, w.heap.size = p2 := ⟨_, rfl⟩
  rw [hp2] at X
  simp only [hp2]
  clear hp2
  obtain ⟨a0, a1, a2, a3, a4, a5, a6⟩ := box_wt X.out
  go_wp2_with fail
  refine (CC.out _).mono ?_
  rintro e w2 ⟨rfl, rfl⟩
  clear a0 a1 a2 a3 a4 a5 a6
  go_wp2_with fail
  go_ret
  exact ⟨rfl, HB.out⟩
end Go.Proofs.YteebeiaokfenmaaGreat.KP

namespace Go.Proofs.YteebeiaokfenmaaGreat.KP
open Go.RowKit CP TP
open CM (Mg Cm)
open TM (Sp)
open KM (Wt Sk)
set_option linter.unusedVariables false
set_option linter.unusedSimpArgs false
set_option maxRecDepth 100000
def BndW (l : List Wt) (id : Int) (lo hi : Nat) : Prop := (∀ t a, t < lo → l[t]? = some a → a.m.id < id) ∧ ∀ t a, hi ≤ t → l[t]? = some a → id ≤ a.m.id
theorem bndw_lo {l : List Wt} {id : Int} {a : Wt} {lo hi m : Nat} (h : BndW l id lo hi) (hp : l.Pairwise fun a b => a.m.id < b.m.id) (ha : l[m]? = some a) (hl : a.m.id < id) : BndW l id (m + 1) hi := by
  refine ⟨fun t b ht hb => ?_, h.2⟩
  rcases Nat.lt_or_ge t m with h1 | h1
  · have := KM.rise_get hp h1 hb ha
    omega
  · obtain rfl : t = m := by omega
    rw [ha] at hb
    injection hb with hb
    rw [← hb]; exact hl
theorem bndw_hi {l : List Wt} {id : Int} {a : Wt} {lo hi m : Nat} (h : BndW l id lo hi) (hp : l.Pairwise fun a b => a.m.id < b.m.id) (ha : l[m]? = some a) (hl : ¬ a.m.id < id) : BndW l id lo m := by
  refine ⟨h.1, fun t b ht hb => ?_⟩
  rcases Nat.lt_or_ge m t with h1 | h1
  · have := KM.rise_get hp h1 ha hb
    omega
  · obtain rfl : t = m := by omega
    rw [ha] at hb
    injection hb with hb
    rw [← hb]; omega
theorem cmpI_neg {a b : Int} : TM.cmpI a b < 0 ↔ a < b := by unfold TM.cmpI; split <;> (try split) <;> omega
theorem cmpI_zero {a b : Int} : TM.cmpI a b = 0 ↔ a = b := by unfold TM.cmpI; split <;> (try split) <;> omega
/-- where something waits, and whether -/
def PlcQ (k : Nat) (b : Bool) (w : World) (e : Ending) (w' : World) : Prop := e = .returned (.tuple #[.int .i64 k, .bool b]) ∧ Below w.heap.size w w'
set_option maxHeartbeats 4000000 in
theorem pbs_any (A : Option Addr) (n c : Nat) (l : List Wt) (id : Int) (W : World) (h : KR KW W A n c l) (hp : l.Pairwise fun a b => a.m.id < b.m.id) (hn : n ≤ 2000) :
    Calls Tryz.prog 151 #[.slice A n c, .int .i64 id, .func (.func 152) #[] #[]] W (PlcQ (KM.wpos l id) (KM.whit l id) W) := by
  have HL := Lib.hid h.len
  have H := Lib.hid (fun w' (hb : Below W.heap.size W w') => h.below hb)
  have HR := Lib.hid hp
  have HP := Lib.hid (fun k (hk : k ≤ n) (hb : BndW l id k k) => KM.wpos_of (l := l) (id := id) (by have := HL.out; omega) hb.1 (fun a ha => hb.2 k a (Nat.le_refl _) ha))
  have HH := Lib.hid (show KM.whit l id = match l[KM.wpos l id]? with | some y => decide (y.m.id = id) | none => false from rfl)
  obtain ⟨K, hK⟩ : ∃ K, K = KM.wpos l id := ⟨_, rfl⟩
  obtain ⟨R, hR⟩ : ∃ R, R = KM.whit l id := ⟨_, rfl⟩
  rw [← hK, ← hR]
  rw [← hR, ← hK] at HH
  rw [← hK] at HP
  clear hK hR h hp
  go_enter Tryz.func151, Tryz.ntmps151
  go_wp2_with fail
  go_loopw [9, 10] (fun a b wr => ∃ (lo hi : Nat), a = .int .i64 lo ∧ b = .int .i64 hi ∧ lo ≤ hi ∧ hi ≤ n ∧ Hid (Below W.heap.size W wr) ∧ Hid (BndW l id lo hi)) (fun a b _ => (intOf b).toNat - (intOf a).toNat)
  case atStart => exact ⟨0, n, rfl, rfl, Nat.zero_le _, Nat.le_refl _, Lib.hid (Below.refl _ _), Lib.hid ⟨fun t a ht => absurd ht (Nat.not_lt_zero _), fun t a ht ha => by
    have := (List.getElem?_eq_some_iff.1 ha).1
    have := HL.out
    omega⟩⟩
  case round =>
    obtain ⟨lo, hi, rfl, rfl, hlh, hin, HW, I⟩ := hrel
    by_cases hlt : lo < hi
    · obtain ⟨m, hm⟩ : ∃ m, m = (lo + hi) / 2 := ⟨_, rfl⟩
      have hmi : ((lo : Int) + (hi : Int)) / 2 = (m : Int) := by omega
      have hm1 : lo ≤ m := by omega
      have hm2 : m < hi := by omega
      obtain ⟨a, ha⟩ : ∃ a, l[m]? = some a := ⟨_, List.getElem?_eq_getElem (by have := HL.out; omega)⟩
      obtain ⟨bl, o, Q, q, rfl, _, _, hat, _⟩ := wts_at (H.out _ HW.out) ha
      obtain ⟨a0, a1, a2, a3, a4, a5, a6⟩ := hat
      have HA := Lib.hid ha
      have CA := Lib.hid (fun w => pcmpId_any Q q a id w)
      obtain ⟨z, hz⟩ : ∃ z, z = TM.cmpI a.m.id id := ⟨_, rfl⟩
      have HZ := Lib.hid (show z < 0 ↔ a.m.id < id by rw [hz]; exact cmpI_neg)
      rw [← hz] at CA
      unfold vwt at CA
      clear ha hm hz
      have hm0 : (0 : Int) ≤ (m : Int) := by omega
      have hmn : (m : Int) < (n : Int) := by omega
      go_wp2_with fail
      refine (CA.out _).mono ?_
      rintro e w4 ⟨rfl, hb4⟩
      have HW2 := Lib.hid (bmore HW.out hb4 (Nat.le_refl _))
      clear hb4 CA a0 a1 a2 a3 a4 a5 a6
      by_cases hz : z < 0
      · have NX := Lib.hid (bndw_lo I.out HR.out HA.out (HZ.out.1 hz))
        clear I
        go_wp2_with fail
        go_roundw
        case rel => exact ⟨m + 1, hi, by go_num, rfl, by omega, hin, HW2, NX⟩
        case measure => simp [intOf]; omega
      · have NX := Lib.hid (bndw_hi I.out HR.out HA.out (fun hk => hz (HZ.out.2 hk)))
        clear I
        go_wp2_with fail
        go_roundw
        case rel => exact ⟨lo, m, rfl, by go_num, by omega, by omega, HW2, NX⟩
        case measure => simp [intOf]; omega
    · obtain rfl : hi = lo := by omega
      obtain rfl : K = hi := (HP.out hi hin I.out).symm ▸ rfl
      clear HP I
      by_cases hkn : K < n
      · obtain ⟨a, ha⟩ : ∃ a, l[K]? = some a := ⟨_, List.getElem?_eq_getElem (by have := HL.out; omega)⟩
        obtain ⟨bl, o, Q, q, rfl, _, _, hat, _⟩ := wts_at (H.out _ HW.out) ha
        obtain ⟨a0, a1, a2, a3, a4, a5, a6⟩ := hat
        have hh := HH.out
        rw [ha] at hh
        simp only at hh
        have CA := Lib.hid (fun w => pcmpId_any Q q a id w)
        obtain ⟨z, hz⟩ : ∃ z, z = TM.cmpI a.m.id id := ⟨_, rfl⟩
        have HZ := Lib.hid (show (z == 0) = R by rw [hh, hz, Bool.eq_iff_iff]; simp [cmpI_zero])
        rw [← hz] at CA
        unfold vwt at CA
        clear ha hz hh HH
        have hm0 : (0 : Int) ≤ (K : Int) := by omega
        have hmn : (K : Int) < (n : Int) := by omega
        go_wp2_with fail
        refine (CA.out _).mono ?_
        rintro e w4 ⟨rfl, hb4⟩
        have HW2 := Lib.hid (bmore HW.out hb4 (Nat.le_refl _))
        clear hb4 CA a0 a1 a2 a3 a4 a5 a6
        go_wp2_with fail
        go_ret2
        exact ⟨by rw [← HZ.out]; rfl, HW2.out⟩
      · have hR : R = false := by
          have := HH.out
          rwa [List.getElem?_eq_none (by have := HL.out; omega)] at this
        subst hR
        go_wp2_with fail
        go_ret2
        exact ⟨rfl, HW.out⟩
set_option maxHeartbeats 1000000 in
theorem pplace_any (A : Option Addr) (n c : Nat) (l : List Wt) (id : Int) (W : World) (h : KR KW W A n c l) (hp : l.Pairwise fun a b => a.m.id < b.m.id) (hn : n ≤ 2000) :
    Calls Tryz.prog 134 #[.slice A n c, .int .i64 id] W (PlcQ (KM.wpos l id) (KM.whit l id) W) := by
  have CB := Lib.hid (pbs_any A n c l id W h hp hn)
  generalize KM.wpos l id = K at CB ⊢
  generalize KM.whit l id = R at CB ⊢
  clear h hp
  go_enter Tryz.func134, Tryz.ntmps134
  go_wp2_with fail
  refine (CB.out).mono ?_
  rintro e w1 ⟨rfl, hb⟩
  have HB := Lib.hid hb
  clear hb CB
  go_wp2_with fail
  go_ret2
  exact ⟨rfl, HB.out⟩
end Go.Proofs.YteebeiaokfenmaaGreat.KP

namespace Go.Proofs.YteebeiaokfenmaaGreat.KP
open Go.RowKit CP TP
open CM (Mg Cm)
open TM (Sp)
open KM (Wt Sk)
set_option linter.unusedVariables false
set_option linter.unusedSimpArgs false
set_option maxRecDepth 100000
set_option maxHeartbeats 1000000 in
theorem pnew15_any (w : World) : Calls Tryz.prog 40 #[] w (SkNew KM.zero w) := by
  have HB := Lib.hid (show Below w.heap.size w (w.alloc (.cells #[.int .i64 0, .slice none 0 0, .slice none 0 0] 39)) from (Below.refl _ _).alloc (Nat.le_refl _) _)
  have X := Lib.hid (Box.new w 39 #[.int .i64 0, .slice none 0 0, .slice none 0 0])
  go_enter Tryz.func40, Tryz.ntmps40
  go_upto_region 1 with (fail)
  generalize w.alloc (.cells #[.int .i64 0, .slice none 0 0, .slice none 0 0] 39) = w1 at HB X ⊢
  obtain ⟨g0, hg0⟩ : ∃ g0, w.heap.size = g0 := ⟨_, rfl⟩
  rw [hg0] at X
  simp only [hg0]
  have HG := Lib.hid hg0
  clear hg0
  obtain ⟨x0, x1, x2, f0, f1, f2⟩ := X.out.three
  have ZP := Lib.hid (Box.put3 X.out (.int .i64 0) (.slice none 0 0) (.slice none 0 0))
  have ZL := Lib.hid (below_put3 HB.out (by have := HG.out; omega) (.int .i64 0) (.slice none 0 0) (.slice none 0 0) (g := g0))
  go_wp2_with fail
  obtain ⟨u0, u1, u2⟩ := box_sk ZP.out
  exact bodyPost_ret (v := .agg #[.int .i64 0, .slice none 0 0, .slice none 0 0]) (by simp [results, Tryz.results40, go_sem, u0, u1, u2]; try rfl) rfl ⟨_, rfl, skO_zero _ _, ZL.out⟩
end Go.Proofs.YteebeiaokfenmaaGreat.KP

namespace Go.Proofs.YteebeiaokfenmaaGreat.KP
open Go.RowKit CP TP
open CM (Mg Cm)
open TM (Sp)
open KM (Wt Sk)
set_option linter.unusedVariables false
set_option linter.unusedSimpArgs false
set_option maxRecDepth 100000
/-- an answer that is the least of what waits, as it lies there -/
def MinIs (A : Option Addr) (l : List Wt) (w : World) (e : Ending) (w' : World) : Prop :=
  ∃ bl o B d x, A = some ⟨bl, o, none⟩ ∧ l[KM.lst l]? = some x ∧ At7 w bl (o + KM.lst l * 7) B d x ∧ e = .returned (vwt B d x) ∧ Below w.heap.size w w'
def MinR (w : World) (bl o p4 p5 : Nat) (l : List Wt) (k : Nat) (wr : World) : Prop :=
  w.heap.size ≤ p4 ∧ w.heap.size ≤ p5 ∧ p4 ≠ p5 ∧ Below w.heap.size w wr ∧ Box wr p4 78 #[.int .i64 0, .slice none 0 0, .int .i64 0, .string ⟨#[]⟩, .string ⟨#[]⟩, .int .i64 0, .bool false] ∧
    ∃ p B d x, l[p]? = some x ∧ Upto l k p ∧ At7 w bl (o + p * 7) B d x ∧ Box wr p5 78 (wcs B d x)
theorem minR_put {w w5 : World} {bl o p4 p5 : Nat} {l : List Wt} {k : Nat} {b0 b1 b2 b3 b4 b5 b6 : Value} {Q : Option Addr} {q : Nat} {y : Wt} (hk : l[k]? = some y) (hu : Upto l (k + 1) k) (hat : At7 w bl (o + k * 7) Q q y)
    (h1 : w.heap.size ≤ p4 ∧ w.heap.size ≤ p5 ∧ p4 ≠ p5) (h2 : Below w.heap.size w w5) (h3 : Box w5 p4 78 #[.int .i64 0, .slice none 0 0, .int .i64 0, .string ⟨#[]⟩, .string ⟨#[]⟩, .int .i64 0, .bool false]) (h4 : Box w5 p5 78 #[b0, b1, b2, b3, b4, b5, b6]) :
    MinR w bl o p4 p5 l (k + 1) (pt7 w5 p5 (.int .i64 y.m.id) (.slice Q y.m.gs.length q) (.int .i64 y.m.tp) (.string y.m.key) (.string y.m.body) (.int .i64 y.t) (.bool y.f)) :=
  ⟨h1.1, h1.2.1, h1.2.2, pt7_below h2 h1.2.1 _ _ _ _ _ _ _, pt7_far h3 h1.2.2 _ _ _ _ _ _ _, k, Q, q, y, hk, hu, hat, pt7_box h4 _ _ _ _ _ _ _⟩
set_option maxHeartbeats 8000000 in
theorem pmin_any (A : Option Addr) (n c : Nat) (l : List Wt) (w : World) (h : KR KW w A n c l) (hne : l ≠ []) : Calls Tryz.prog 107 #[.slice A n c, .func (.func 108) #[] #[]] w (MinIs A l w) := by
  have HL := Lib.hid h.len
  have hn63 := h.small
  have hn0 : 0 < n := by
    have := HL.out
    rcases l with _ | ⟨x, r⟩
    · exact absurd rfl hne
    · rw [List.length_cons] at this; omega
  obtain ⟨x0, hx0⟩ : ∃ x0, l[0]? = some x0 := ⟨_, List.getElem?_eq_getElem (by have := HL.out; omega)⟩
  obtain ⟨bl, o, B0, d0, rfl, _, hbl, hat0, _⟩ := wts_at h hx0
  have H := Lib.hid (show ∀ k y, l[k]? = some y → ∃ Q q, k < n ∧ At7 w bl (o + k * 7) Q q y from fun k y hy => by
    obtain ⟨bl', o', Q, q, e, h1, h2, h3, _⟩ := wts_at h hy
    injection e with e
    injection e with e1 e2
    subst e1 e2
    exact ⟨Q, q, h1, h3⟩)
  have HBL := Lib.hid hbl
  have H1 := Lib.hid (upto_one hne)
  have HX0 := Lib.hid hx0
  have HA0 := Lib.hid hat0
  have HRES := Lib.hid (fun e w' => show (∃ p B d x, l[p]? = some x ∧ KM.lst l = p ∧ At7 w bl (o + p * 7) B d x ∧ e = .returned (vwt B d x) ∧ Below w.heap.size w w') → MinIs (some ⟨bl, o, none⟩) l w e w' from fun ⟨p, B, d, x, g1, g2, g3, g4, g5⟩ => ⟨bl, o, B, d, x, rfl, by rw [g2]; exact g1, by rw [g2]; exact g3, g4, g5⟩)
  have HB := Lib.hid (show Below w.heap.size w (w.alloc (.cells #[.int .i64 0, .slice none 0 0, .int .i64 0, .string ⟨#[]⟩, .string ⟨#[]⟩, .int .i64 0, .bool false] 78)) from (Below.refl _ _).alloc (Nat.le_refl _) _)
  have Y := Lib.hid (Box.new w 78 #[.int .i64 0, .slice none 0 0, .int .i64 0, .string ⟨#[]⟩, .string ⟨#[]⟩, .int .i64 0, .bool false])
  have HS := Lib.hid (show w.heap.size < (w.alloc (.cells #[.int .i64 0, .slice none 0 0, .int .i64 0, .string ⟨#[]⟩, .string ⟨#[]⟩, .int .i64 0, .bool false] 78)).heap.size by simp)
  clear h hne hx0 hbl hat0
  go_enter Tryz.func107, Tryz.ntmps107
  go_upto_region 1 with (fail)
  generalize w.alloc (.cells #[.int .i64 0, .slice none 0 0, .int .i64 0, .string ⟨#[]⟩, .string ⟨#[]⟩, .int .i64 0, .bool false] 78) = w1 at HB Y HS ⊢
  obtain ⟨p4, hp4⟩ : ∃ p4, w.heap.size = p4 := ⟨_, rfl⟩
  rw [hp4] at Y
  simp only [hp4]
  have HP4 := Lib.hid hp4
  clear hp4
  have hn1 : ¬ ((n : Int) < 1) := by omega
  have hn2 : (0 : Int) < (n : Int) := by omega
  obtain ⟨a0, a1, a2, a3, a4, a5, a6⟩ := HA0.out.below HBL.out HB.out
  obtain ⟨⟨xi, xg, xt, xk, xb⟩, xm, xf⟩ := x0
  simp only at a0 a1 a2 a3 a4 a5 a6
  simp only [Nat.zero_mul, Nat.add_zero] at a0 a1 a2 a3 a4 a5 a6
  go_upto_region 4 with (fail)
  have hst : MinR w bl o p4 w1.heap.size l 1 (w1.alloc (.cells #[.int .i64 xi, .slice B0 xg.length d0, .int .i64 xt, .string xk, .string xb, .int .i64 xm, .bool xf] 78)) := by
    have h1 := HS.out
    have h2 := HP4.out
    exact ⟨by omega, by omega, by omega, bmore HB.out ((Below.refl _ _).alloc (Nat.le_refl _) _) (Nat.le_refl _), Y.out.alloc _, 0, B0, d0, _, HX0.out, H1.out, HA0.out, Box.new _ _ _⟩
  have HT := Lib.hid hst
  clear hst a0 a1 a2 a3 a4 a5 a6 HB Y HS H1 HA0 HX0
  generalize w1.alloc (.cells #[.int .i64 xi, .slice B0 xg.length d0, .int .i64 xt, .string xk, .string xb, .int .i64 xm, .bool xf] 78) = w2 at HT ⊢
  generalize w1.heap.size = p5 at HT ⊢
  go_wp2_with fail
  go_loopw [6] (fun i wr => ∃ k : Nat, k ≤ n ∧ i = .int .i64 k ∧ Hid (MinR w bl o p4 p5 l k wr)) (fun i _ => n - (intOf i).toNat)
  case atStart => exact ⟨1, by omega, rfl, HT⟩
  case round =>
    clear HT
    obtain ⟨k, hk, rfl, HT⟩ := hrel
    by_cases hlt : k < n
    · obtain ⟨y, hy⟩ : ∃ y, l[k]? = some y := ⟨_, List.getElem?_eq_getElem (by have := HL.out; omega)⟩
      have HY := Lib.hid hy
      obtain ⟨hp1, hp2, hp3, hb, hx4, p, B, d, x, hx, hu, hat, hx5⟩ := HT.out
      obtain ⟨Q, q, _, haty⟩ := H.out k y hy
      have HPP := Lib.hid (And.intro hp1 (And.intro hp2 hp3))
      have HB := Lib.hid hb
      have X4 := Lib.hid hx4
      have X5 := Lib.hid hx5
      have HX := Lib.hid hx
      have HU := Lib.hid hu
      have HAX := Lib.hid hat
      have HAY := Lib.hid haty
      obtain ⟨b0, b1, b2, b3, b4, b5, b6⟩ := haty.below HBL.out hb
      obtain ⟨a0, a1, a2, a3, a4, a5, a6⟩ := box_wt hx5
      clear hy hp1 hp2 hp3 hb hx4 hx hu hat hx5 haty HT
      have hk0 : (0 : Int) ≤ (k : Int) := by omega
      have hkn : (k : Int) < (n : Int) := by omega
      obtain ⟨z, hz⟩ : ∃ z, z = ordS (KM.stp y) (KM.stp x) := ⟨_, rfl⟩
      have HZ := Lib.hid (show z < 0 ↔ TM.less (KM.stp y) (KM.stp x) = true by rw [hz]; exact ordS_neg)
      have C1 := Lib.hid (fun w => pinOrder_any Q B q d y x w)
      rw [← hz] at C1
      clear hz
      have HYE := Lib.hid (fun (W : World) (g : Nat) => show pt7 W g (.int .i64 y.m.id) (.slice Q y.m.gs.length q) (.int .i64 y.m.tp) (.string y.m.key) (.string y.m.body) (.int .i64 y.t) (.bool y.f) = pt7 W g (.int .i64 y.m.id) (.slice Q y.m.gs.length q) (.int .i64 y.m.tp) (.string y.m.key) (.string y.m.body) (.int .i64 y.t) (.bool y.f) from rfl)
      obtain ⟨⟨yi, yg, yt, yk, yb⟩, ym, yf⟩ := y
      obtain ⟨⟨xi, xg, xt, xk, xb⟩, xm, xf⟩ := x
      unfold vwt at C1
      unfold wcs at X5
      simp only at a0 a1 a2 a3 a4 a5 a6 b0 b1 b2 b3 b4 b5 b6 C1 X5
      have HSS := Lib.hid (fun (w' : World) (h : Below wr.heap.size wr w') => show w'.cell? ⟨bl, o + k * 7, none⟩ = some (.int .i64 yi) ∧ w'.cell? ⟨bl, o + k * 7 + 1, none⟩ = some (.slice Q yg.length q) ∧ w'.cell? ⟨bl, o + k * 7 + 2, none⟩ = some (.int .i64 yt) ∧ w'.cell? ⟨bl, o + k * 7 + 3, none⟩ = some (.string yk) ∧ w'.cell? ⟨bl, o + k * 7 + 4, none⟩ = some (.string yb) ∧ w'.cell? ⟨bl, o + k * 7 + 5, none⟩ = some (.int .i64 ym) ∧ w'.cell? ⟨bl, o + k * 7 + 6, none⟩ = some (.bool yf) ∧ w'.cell? ⟨p5, 0, none⟩ = some (.int .i64 xi) ∧ w'.cell? ⟨p5, 1, none⟩ = some (.slice B xg.length d) ∧ w'.cell? ⟨p5, 2, none⟩ = some (.int .i64 xt) ∧ w'.cell? ⟨p5, 3, none⟩ = some (.string xk) ∧ w'.cell? ⟨p5, 4, none⟩ = some (.string xb) ∧ w'.cell? ⟨p5, 5, none⟩ = some (.int .i64 xm) ∧ w'.cell? ⟨p5, 6, none⟩ = some (.bool xf) from
        ⟨(h.cell (cell_block b0)).trans b0, (h.cell (cell_block b1)).trans b1, (h.cell (cell_block b2)).trans b2, (h.cell (cell_block b3)).trans b3, (h.cell (cell_block b4)).trans b4, (h.cell (cell_block b5)).trans b5, (h.cell (cell_block b6)).trans b6, (h.cell (cell_block a0)).trans a0, (h.cell (cell_block a1)).trans a1, (h.cell (cell_block a2)).trans a2, (h.cell (cell_block a3)).trans a3, (h.cell (cell_block a4)).trans a4, (h.cell (cell_block a5)).trans a5, (h.cell (cell_block a6)).trans a6⟩)
      have bb1 : Below wr.heap.size wr wr.drew := (Below.refl _ _).drew
      go_wp2_with fail
      obtain ⟨ud, hud⟩ : ∃ ud, ud = wr.drew := ⟨_, rfl⟩
      refine wp_region_held_drew (S := fun w' => w'.cell? ⟨bl, o + k * 7, none⟩ = some (.int .i64 yi) ∧ w'.cell? ⟨bl, o + k * 7 + 1, none⟩ = some (.slice Q yg.length q) ∧ w'.cell? ⟨bl, o + k * 7 + 2, none⟩ = some (.int .i64 yt) ∧ w'.cell? ⟨bl, o + k * 7 + 3, none⟩ = some (.string yk) ∧ w'.cell? ⟨bl, o + k * 7 + 4, none⟩ = some (.string yb) ∧ w'.cell? ⟨bl, o + k * 7 + 5, none⟩ = some (.int .i64 ym) ∧ w'.cell? ⟨bl, o + k * 7 + 6, none⟩ = some (.bool yf) ∧ w'.cell? ⟨p5, 0, none⟩ = some (.int .i64 xi) ∧ w'.cell? ⟨p5, 1, none⟩ = some (.slice B xg.length d) ∧ w'.cell? ⟨p5, 2, none⟩ = some (.int .i64 xt) ∧ w'.cell? ⟨p5, 3, none⟩ = some (.string xk) ∧ w'.cell? ⟨p5, 4, none⟩ = some (.string xb) ∧ w'.cell? ⟨p5, 5, none⟩ = some (.int .i64 xm) ∧ w'.cell? ⟨p5, 6, none⟩ = some (.bool xf)) (by kernel_rfl) (HSS.out _ bb1) (fun hHeld => ?_)
      rw [← hud] at bb1 hHeld ⊢
      clear hud
      refine qT 0 ?_; try simp only [Act.put, qq]
      refine qT 1 ?_; try simp only [Act.put, qq]
      refine qT 2 ?_; try simp only [Act.put, qq]
      refine qT 3 ?_; try simp only [Act.put, qq]
      refine qT 4 ?_; try simp only [Act.put, qq]
      refine qT 5 ?_; try simp only [Act.put, qq]
      refine wpAnyH_ready (rs := [6]) (by kernel_rfl) (by simp) ?_
      refine AllReadyH.cons rfl (fun K hK => ?_) AllReadyH.nil
      go_simp
      refine (C1.out _).mono ?_
      rintro e w5 ⟨rfl, hb⟩
      have bb2 := bmore bb1 hb (Nat.le_refl _)
      clear hb
      refine hK.out _ _ (HSS.out _ bb2) (fun hHeld => ?_)
      clear hK
      try simp only [Act.put, qq]
      refine qT 7 ?_; try simp only [Act.put, qq]
      refine wpAnyH_done (by kernel_rfl) ?_ _
      clear hHeld HSS
      have HN := Lib.hid (bmore HB.out bb2 (Nat.le_refl _))
      have X4n := Lib.hid (X4.out.below bb2 X4.out.lt)
      have X5n := Lib.hid (X5.out.below bb2 X5.out.lt)
      clear C1 b0 b1 b2 b3 b4 b5 b6 a0 a1 a2 a3 a4 a5 a6
      by_cases hz0 : z < 0
      · have HF := Lib.hid (HU.out.turn HX.out HY.out (HZ.out.1 hz0))
        have NX := Lib.hid (minR_put HY.out HF.out HAY.out HPP.out HN.out X4n.out X5n.out)
        obtain ⟨b0, b1, b2, b3, b4, b5, b6⟩ := HAY.out.below HBL.out HN.out
        obtain ⟨⟨c0, c1, c2, c3, c4, c5, c6⟩, f0, f1, f2, f3, f4, f5, f6⟩ := box_wtf X5n.out
        simp only at b0 b1 b2 b3 b4 b5 b6
        go_wp2_with fail
        go_roundw
        case rel => exact ⟨k + 1, by omega, by go_num, NX⟩
        case measure => simp [intOf]; omega
      · have HF := Lib.hid (HU.out.keep HX.out HY.out (by
          cases hl : TM.less (KM.stp ⟨⟨yi, yg, yt, yk, yb⟩, ym, yf⟩) (KM.stp ⟨⟨xi, xg, xt, xk, xb⟩, xm, xf⟩)
          · rfl
          · exact absurd (HZ.out.2 hl) hz0))
        have NX := Lib.hid (show MinR w bl o p4 p5 l (k + 1) w5 from ⟨HPP.out.1, HPP.out.2.1, HPP.out.2.2, HN.out, X4n.out, p, B, d, _, HX.out, HF.out, HAX.out, X5n.out⟩)
        go_wp2_with fail
        go_roundw
        case rel => exact ⟨k + 1, by omega, by go_num, NX⟩
        case measure => simp [intOf]; omega
    · obtain ⟨hp1, hp2, hp3, hb, hx4, p, B, d, x, hx, hu, hat, hx5⟩ := HT.out
      have HF := Lib.hid (hu.all (by have := HL.out; omega))
      have HB := Lib.hid hb
      have HX := Lib.hid hx
      have HAX := Lib.hid hat
      have HQ := Lib.hid hp1
      obtain ⟨a0, a1, a2, a3, a4, a5, a6⟩ := box_wt hx5
      obtain ⟨⟨c0, c1, c2, c3, c4, c5, c6⟩, f0, f1, f2, f3, f4, f5, f6⟩ := box_wtf hx4
      have Z4 := Lib.hid (pt7_box hx4 (.int .i64 x.m.id) (.slice B x.m.gs.length d) (.int .i64 x.m.tp) (.string x.m.key) (.string x.m.body) (.int .i64 x.t) (.bool x.f))
      have ZB := Lib.hid (pt7_below hb hp1 (.int .i64 x.m.id) (.slice B x.m.gs.length d) (.int .i64 x.m.tp) (.string x.m.key) (.string x.m.body) (.int .i64 x.t) (.bool x.f))
      unfold pt7 at Z4 ZB
      clear hp1 hp2 hp3 hb hx4 hx hu hat hx5 HT
      go_wp2_with fail
      obtain ⟨u0, u1, u2, u3, u4, u5, u6⟩ := box_wt Z4.out
      exact bodyPost_ret (v := .agg #[.int .i64 x.m.id, .slice B x.m.gs.length d, .int .i64 x.m.tp, .string x.m.key, .string x.m.body, .int .i64 x.t, .bool x.f]) (by simp [results, Tryz.results107, go_sem, u0, u1, u2, u3, u4, u5, u6]; try rfl) rfl (HRES.out _ _ ⟨p, B, d, x, HX.out, HF.out, HAX.out, rfl, ZB.out⟩)
end Go.Proofs.YteebeiaokfenmaaGreat.KP
