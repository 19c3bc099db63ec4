/- Contracts of functions of towncrier, layers 5 to 9, and of the document's own ones, part 18; each as its theorem says. -/
import Derived.Test.YtiiobafcgdelmaaGreatL01
import Derived.Test.YtiiobafcgdelmaaGreatL17
set_option linter.unusedVariables false
set_option linter.unusedSimpArgs false
namespace Go.Proofs.YtiiobafcgdelmaaGreat.PD
open Go.RowKit Go.Shelf
def ComPost (base g : Nat) (w : DC.Wd) (m : DC.Ml) (W : World) (e : Ending) (W' : World) : Prop :=
 e = .returned (.tuple #[]) ∧ WdAt W' base g (DC.comes w m) ∧ Kept isTk W W' ∧ Below base W W'
theorem MlS.below {W wx wy : World} {base g gb : Nat} {w : DC.Wd} {m : DC.Ml} (h : MlS W base g w gb m wx) (hb : Below wx.heap.size wx wy) (hbase : base ≤ W.heap.size) : MlS W base g w gb m wy := by
 obtain ⟨h1, h2, h3, h4, h5, h6⟩ := h
 refine ⟨h1.below hb, h2.below hb h2.lt, fun v hv => h3 v ?_, h4, h5.more hb, bmore h6 hb hbase⟩
 rwa [hb.cell (p := ⟨g, 3, none⟩) h1.lt.2] at hv
theorem acc70 {p b : Int} {s : ByteArray} {k : Int} {v : ByteArray} {x y : Int} {t : ByteArray} {e : Int} (h : VM.AccIs p b s k v x y t e) (hm : VM.may p b s) (hk : BM.good k) (hv : v.size ≤ 1024) (hp : k < p) : e = 70 := by
 rcases h.1 with ⟨n, _⟩ | ⟨_, n, _⟩ | ⟨_, _, n, _⟩ | ⟨_, _, _, _, h⟩ | ⟨_, _, _, n, _⟩
 ·exact absurd hm n
 ·exact absurd hk n
 ·omega
 ·exact h
 ·omega
theorem comes_prep {w : DC.Wd} {i : Nat} {f b p : Int} {v : ByteArray} {x y : Int} {tv : ByteArray} {ee : Int} (hm : VM.may (DC.getV w (i : Int)).p (DC.getV w (i : Int)).b (DC.getV w (i : Int)).v) (hb : BM.good b)
  (h : VM.PrepIs (DC.getV w (i : Int)).p (DC.getV w (i : Int)).b (DC.getV w (i : Int)).v b x y tv ee) : votedF w i x y tv ee f 2 b y tv = DC.comes w (DC.mk f (i : Int) 1 b p v) := by
 have hc : DC.comes w (DC.mk f (i : Int) 1 b p v) = if (DC.getV w (i : Int)).p ≤ b then ⟨w.ms, w.vs.set i ⟨b, (DC.getV w (i : Int)).b, (DC.getV w (i : Int)).v⟩, w.ts, w.ml ++ [DC.mk (i : Int) f 2 b (DC.getV w (i : Int)).b (DC.getV w (i : Int)).v], w.ch⟩ else ⟨w.ms, w.vs, w.ts, w.ml ++ [DC.mk (i : Int) f 5 b (DC.getV w (i : Int)).p .empty], w.ch⟩ := rfl
 rw [hc]
 by_cases hle : (DC.getV w (i : Int)).p ≤ b
 ·obtain ⟨p1, p2, p3, p4⟩ := VM.prep_good h hm hb hle
  rw [if_pos hle, p1, p2, p3, p4]; rfl
 ·obtain ⟨p4, p1, p2, p3⟩ := VM.prep_old h hm hb (by omega)
  rw [if_neg hle, p1, p2, p3, p4]; rfl
theorem comes_acc {w : DC.Wd} {i : Nat} {f b p : Int} {v : ByteArray} {x y : Int} {tv : ByteArray} {ee : Int} (hm : VM.may (DC.getV w (i : Int)).p (DC.getV w (i : Int)).b (DC.getV w (i : Int)).v) (hb : BM.good b) (hv : v.size ≤ 1024)
  (h : VM.AccIs (DC.getV w (i : Int)).p (DC.getV w (i : Int)).b (DC.getV w (i : Int)).v b v x y tv ee) : votedF w i x y tv ee f 4 b 0 .empty = DC.comes w (DC.mk f (i : Int) 3 b p v) := by
 have hc : DC.comes w (DC.mk f (i : Int) 3 b p v) = if (DC.getV w (i : Int)).p ≤ b then ⟨w.ms, w.vs.set i ⟨b, b, v⟩, w.ts, w.ml ++ [DC.mk (i : Int) f 4 b 0 .empty], w.ch⟩ else ⟨w.ms, w.vs, w.ts, w.ml ++ [DC.mk (i : Int) f 5 b (DC.getV w (i : Int)).p .empty], w.ch⟩ := rfl
 rw [hc]
 by_cases hle : (DC.getV w (i : Int)).p ≤ b
 ·obtain ⟨p1, p2, p3, p4⟩ := VM.acc_good h hm hb hv hle
  rw [if_pos hle, ← p2, ← p1, ← p3, p4]; rfl
 ·have p4 := acc70 h hm hb hv (by omega)
  rw [if_neg hle, p4]; rfl
set_option maxRecDepth 100000 in
set_option maxHeartbeats 8000000 in
theorem take_1 (base g i : Nat) (w : DC.Wd) (f b p : Int) (v : ByteArray) (W : World) (H : WdAt W base g w) (h0 : DC.May0 w) (hi : i < 6) (hm : DC.MayM (DC.mk f (i : Int) 1 b p v)) (hbase : base ≤ W.heap.size) (hl : w.ml.length ≤ 1000) (hch : w.ch.length ≤ 1000) :
  Calls Tryz.prog 53 #[.pointer (some ⟨g, 0, none⟩), .agg #[.int .i64 f, .int .i64 (i : Int), .int .u8 1, .int .i64 0, .int .i64 0, .int .i64 b, .int .i64 p, .string v, .int .i64 0, .int .i64 0]] W (ComPost base g w (DC.mk f (i : Int) 1 b p v) W) := by
 have hn : DC.isNode (i : Int) := by unfold DC.isNode; omega
 have hgood : BM.good b := hm.2.2.2.2.2.1
 have hvs : v.size ≤ 1024 := hm.2.2.2.2.2.2.2
 have hp0 : 0 ≤ p := hm.2.2.2.2.2.2.1
 have LT6 := h! h0.tl
 have LV6 := h! h0.vl
 have hVv : w.vs[i]? = some (DC.getV w (i : Int)) := by have := DC.getV_at h0.vl hn; rwa [Int.toNat_natCast] at this
 have hvm := h0.vote hn
 obtain ⟨vt, hvt⟩ : ∃ vt, vt = DC.getV w (i : Int) := ⟨_, rfl⟩
 have H0 := h! h0
 have HI := h! hi
 have HBS := h! hbase
 have LEN := h! (And.intro hl hch)
 have hi0 : (0 : Int) ≤ (i : Int) := by omega
 have hi2 : (i : Int) < (w.vs.length : Int) := by have := LV6.out; omega
 have mixed : Tryz.prog.follows Departure.mixedOrders = true := by kernel_rfl
 obtain ⟨W2, hW2⟩ : ∃ W2, W2 = (W.alloc (.cells #[.int .i64 f, .int .i64 (i : Int), .int .u8 1, .int .i64 0, .int .i64 0, .int .i64 b, .int .i64 p, .string v, .int .i64 0, .int .i64 0] 51)).alloc (.cells #[.int .i64 (i : Int), .int .i64 f, .int .u8 0, .int .i64 0, .int .i64 0, .int .i64 b, .int .i64 0, .string ⟨#[]⟩, .int .i64 0, .int .i64 0] 51) := ⟨_, rfl⟩
 have hb2 : Below W.heap.size W W2 := by rw [hW2]; exact ((Below.refl _ _).alloc n! _).alloc (by simp) _
 have hs2 : W2.heap.size = W.heap.size + 1 + 1 := by rw [hW2]; simp
 have hxm : Box W2 W.heap.size 51 #[.int .i64 f, .int .i64 (i : Int), .int .u8 1, .int .i64 0, .int .i64 0, .int .i64 b, .int .i64 p, .string v, .int .i64 0, .int .i64 0] := by rw [hW2]; exact (Box.new _ _ _).alloc _
 have hxb : Box W2 (W.heap.size + 1) 51 #[.int .i64 (i : Int), .int .i64 f, .int .u8 0, .int .i64 0, .int .i64 0, .int .i64 b, .int .i64 0, .string ⟨#[]⟩, .int .i64 0, .int .i64 0] := by rw [hW2]; exact Box.new_at _ (by simp)
 have S1 : Hid (MlS W base g w (W.heap.size + 1) (DC.mk (i : Int) f 0 b 0 .empty) W2) := h! ⟨H.below hb2, hxb, fun u hu => by
  obtain ⟨A0, c0, A1, c1, A2, c2, A3, c3, A4, c4, xs, hgb, hx, o0, o1, o2, ht, o3, o4⟩ := H
  rw [hb2.cell (p := ⟨g, 3, none⟩) hx.lt, hx.five.1.2.2.2.1] at hu
  injection hu with hu
  subst hu
  intro hc
  obtain ⟨_, cur, hd⟩ := own_block o3 hc
  have := hd.lt
  omega, by omega, Kept.of_below hb2, hb2.mono hbase⟩
 have XM := h! hxm
 have HS2 := h! hs2
 obtain ⟨m0, m1, m2, m3, m4, m5, m6, m7, m8, m9⟩ := hxm.ten
 have hx := VM.prepIs_ex (DC.getV w (i : Int)).p (DC.getV w (i : Int)).b (DC.getV w (i : Int)).v b
 obtain ⟨x, y, tv, ee, hprep⟩ := hx
 have hfin := comes_prep (f := f) (p := p) (v := v) hvm hgood hprep
 rw [← hvt] at hvm hprep hVv
 have bv : (-9223372036854775808 ≤ vt.p ∧ vt.p ≤ 9223372036854775807) ∧ (-9223372036854775808 ≤ vt.b ∧ vt.b ≤ 9223372036854775807) ∧ vt.v.size ≤ maxLen := by
  obtain ⟨hp, hb⟩ := hvm
  have h1 : 0 ≤ vt.p ∧ vt.p ≤ 9223372036854775807 := by
   rcases hp with h | h
   ·omega
   ·unfold BM.good at h; omega
  refine ⟨by omega, ?_⟩
  rcases hb with ⟨e1, e2⟩ | ⟨_, e1, _, e3⟩
  ·exact ⟨by omega, by rw [e2]; decide⟩
  ·unfold BM.good at e1; exact ⟨by omega, by unfold maxLen; omega⟩
 have HPR := h! (fun W' => VP.prep_any (s := vt.v) W' bv.1.1 bv.1.2 bv.2.1.1 bv.2.1.2 bv.2.2 (by unfold BM.good at hgood; omega) (by unfold BM.good at hgood; omega) hprep)
 have HFIN := h! hfin
 obtain ⟨q1, c1, hvc⟩ := S1.out.1.vote hVv
 have CC := h! (fun (w' : World) (hb : Below W2.heap.size W2 w') => (⟨hvc w' hb, (hxm.below hb hxm.lt).cell 1, (hxm.below hb hxm.lt).cell 5, (hxm.below hb hxm.lt).cell 7⟩ : (w'.cell? ⟨g, 1, none⟩ = some (.slice (some ⟨q1, 0, none⟩) w.vs.length c1) ∧ w'.cell? ⟨q1, i * 3, none⟩ = some (.int .i64 vt.p) ∧ w'.cell? ⟨q1, i * 3 + 1, none⟩ = some (.int .i64 vt.b) ∧ w'.cell? ⟨q1, i * 3 + 2, none⟩ = some (.string vt.v)) ∧ w'.cell? ⟨W.heap.size, 1, none⟩ = some (.int .i64 (i : Int)) ∧ w'.cell? ⟨W.heap.size, 5, none⟩ = some (.int .i64 b) ∧ w'.cell? ⟨W.heap.size, 7, none⟩ = some (.string v)))
 clear bv hprep hfin hvc
 clear h0 hn hvm hVv hbase hl hch hgood hvs hp0 hvt hb2 hs2 hxm hxb hm hi H
 go_enter Tryz.func53, Tryz.ntmps53
 go_upto_region 2 with (fail)
 rw [← hW2]
 clear hW2
 go_upto_region 4 with (fail)
 clear m0 m1 m2 m3 m4 m5 m6 m7 m8 m9
 go_cut [5, 6] (fun u5 u6 wx => VoteMid W2 x y tv ee u5 u6 wx)
 case first =>
  have bb1 : Below W2.heap.size W2 W2.drew := (Below.refl _ _).drew
  have bb0 : ∀ ob : Obj, Below W2.heap.size W2 (W2.alloc ob).drew := fun ob => ((Below.refl _ _).alloc n! ob).drew
  refine wp_region_held_drew (S := fun w' => Below W2.heap.size W2 w') (by kernel_rfl) bb1 (fun hHeld => ?_)
  refine wpAnyH_take (i := 0) (v := ?_) rfl (by kernel_rfl) (by kernel_rfl) (by kernel_rfl) (fun _ _ _ h => h) (Or.inl ⟨by rfl, ?_⟩) (by assumption) ?_
  rotate_left
  ·intro w' hSw
   (try dsimp only at hSw)
   obtain ⟨⟨k0, k1, k2, k3⟩, k4, k5, k6⟩ := CC.out _ hSw
   go_simp
   all_goals (with_reducible rfl)
  try simp only [Act.put, qq]
  refine wpAnyH_take (i := 1) (v := ?_) rfl (by kernel_rfl) (by kernel_rfl) (by kernel_rfl) (fun _ _ _ h => h) (Or.inl ⟨by rfl, ?_⟩) (by assumption) ?_
  rotate_left
  ·intro w' hSw
   (try dsimp only at hSw)
   obtain ⟨⟨k0, k1, k2, k3⟩, k4, k5, k6⟩ := CC.out _ hSw
   go_simp
   all_goals (with_reducible rfl)
  try simp only [Act.put, qq]
  refine wpAnyH_take (i := 2) (v := ?_) rfl (by kernel_rfl) (by kernel_rfl) (by kernel_rfl) (fun _ _ _ h => h) (Or.inl ⟨by rfl, ?_⟩) (by assumption) ?_
  rotate_left
  ·intro w' hSw
   (try dsimp only at hSw)
   obtain ⟨⟨k0, k1, k2, k3⟩, k4, k5, k6⟩ := CC.out _ hSw
   go_simp
   all_goals (with_reducible rfl)
  try simp only [Act.put, qq]
  refine wpAnyH_take (i := 3) (v := ?_) rfl (by kernel_rfl) (by kernel_rfl) (by kernel_rfl) (fun _ _ _ h => h) (Or.inl ⟨by rfl, ?_⟩) (by assumption) ?_
  rotate_left
  ·intro w' hSw
   (try dsimp only at hSw)
   obtain ⟨⟨k0, k1, k2, k3⟩, k4, k5, k6⟩ := CC.out _ hSw
   go_simp
   all_goals (with_reducible rfl)
  try simp only [Act.put, qq]
  refine wpAnyH_take (i := 4) (v := ?_) rfl (by kernel_rfl) (by kernel_rfl) (by kernel_rfl) (fun _ _ _ h => h) (Or.inl ⟨by rfl, ?_⟩) (by assumption) ?_
  rotate_left
  ·intro w' hSw
   (try dsimp only at hSw)
   obtain ⟨⟨k0, k1, k2, k3⟩, k4, k5, k6⟩ := CC.out _ hSw
   go_simp
   all_goals (with_reducible rfl)
  try simp only [Act.put, qq]
  refine wpAnyH_take (i := 5) (v := ?_) rfl (by kernel_rfl) (by kernel_rfl) (by kernel_rfl) (fun _ _ _ h => h) (Or.inl ⟨by rfl, ?_⟩) (by assumption) ?_
  rotate_left
  ·intro w' hSw
   (try dsimp only at hSw)
   obtain ⟨⟨k0, k1, k2, k3⟩, k4, k5, k6⟩ := CC.out _ hSw
   go_simp
   all_goals (with_reducible rfl)
  try simp only [Act.put, qq]
  refine wpAnyH_take (i := 6) (v := ?_) rfl (by kernel_rfl) (by kernel_rfl) (by kernel_rfl) (fun _ _ _ h => h) (Or.inl ⟨by rfl, ?_⟩) (by assumption) ?_
  rotate_left
  ·intro w' hSw
   (try dsimp only at hSw)
   obtain ⟨⟨k0, k1, k2, k3⟩, k4, k5, k6⟩ := CC.out _ hSw
   go_simp
   all_goals (with_reducible rfl)
  try simp only [Act.put, qq]
  refine wpAnyH_take (i := 7) (v := ?_) rfl (by kernel_rfl) (by kernel_rfl) (by kernel_rfl) (fun _ _ _ h => h) (Or.inl ⟨by rfl, ?_⟩) (by assumption) ?_
  rotate_left
  ·intro w' hSw
   (try dsimp only at hSw)
   obtain ⟨⟨k0, k1, k2, k3⟩, k4, k5, k6⟩ := CC.out _ hSw
   go_simp
   all_goals (with_reducible rfl)
  try simp only [Act.put, qq]
  refine wpAnyH_take (i := 8) (v := ?_) rfl (by kernel_rfl) (by kernel_rfl) (by kernel_rfl) (fun _ _ _ h => h) (Or.inl ⟨by rfl, ?_⟩) (by assumption) ?_
  rotate_left
  ·intro w' hSw
   (try dsimp only at hSw)
   obtain ⟨⟨k0, k1, k2, k3⟩, k4, k5, k6⟩ := CC.out _ hSw
   go_simp
   all_goals (with_reducible rfl)
  try simp only [Act.put, qq]
  refine wpAnyH_take (i := 9) (v := ?_) rfl (by kernel_rfl) (by kernel_rfl) (by kernel_rfl) (fun _ _ _ h => h) (Or.inl ⟨by rfl, ?_⟩) (by assumption) ?_
  rotate_left
  ·intro w' hSw
   (try dsimp only at hSw)
   obtain ⟨⟨k0, k1, k2, k3⟩, k4, k5, k6⟩ := CC.out _ hSw
   go_simp
   all_goals (with_reducible rfl)
  try simp only [Act.put, qq]
  refine wpAnyH_ready (rs := [10, 14]) (by kernel_rfl) (by simp) ?_
  refine AllReadyH.cons rfl (fun K hK => ?_) (AllReadyH.cons rfl (fun K hK => ?_) AllReadyH.nil)
  ·go_simp
   refine (HPR.out _).mono ?_
   rintro e w4 ⟨rfl, hb⟩
   have hq := vm_1 (x := x) (y := y) (e := ee) (t := tv) hb
   have bb2 := hq.1
   have mid := h! hq.2
   clear hq hb
   refine hK.out _ _ (bb2) (fun hHeld => ?_)
   clear hK
   try simp only [Act.put, qq]
   refine qT 11 ?_
   try simp only [Act.put, qq]
   refine qT 12 ?_
   try simp only [Act.put, qq]
   refine qT 13 ?_
   try simp only [Act.put, qq]
   refine qR 14 fun K hK => ?_
   go_simp
   refine hK.out _ _ (bb2.alloc bb2.size _) (fun hHeld => ?_)
   clear hK
   try simp only [Act.put, qq]
   refine qR 15 fun K hK => ?_
   go_simp
   refine hK.out _ _ (bb2.alloc bb2.size _) (fun hHeld => ?_)
   clear hK
   try simp only [Act.put, qq]
   refine qT 16 ?_
   try simp only [Act.put, qq]
   refine wpAnyH_done (by kernel_rfl) ?_ _
   go_wp2_with fail
   go_meet
   case rel => exact mid.out
  ·go_simp
   refine hK.out _ _ (bb0 _) (fun hHeld => ?_)
   clear hK
   try simp only [Act.put, qq]
   refine qR 10 fun K hK => ?_
   go_simp
   refine (HPR.out _).mono ?_
   rintro e w4 ⟨rfl, hb⟩
   have hq := vm_2 (x := x) (y := y) (e := ee) (t := tv) hb
   have bb2 := hq.1
   obtain ⟨r0, r1, r2, z0, z1, z2⟩ := hq.2.1.three
   have mid := h! hq.2.2
   have kk := below_put3 bb2 (g := W2.heap.size) n! (.int .i64 x) (.int .i64 y) (.string tv)
   clear hq hb
   refine hK.out _ _ (bb2) (fun hHeld => ?_)
   clear hK
   try simp only [Act.put, qq]
   refine qT 11 ?_
   try simp only [Act.put, qq]
   refine qT 12 ?_
   try simp only [Act.put, qq]
   refine qT 13 ?_
   try simp only [Act.put, qq]
   refine qR 15 fun K hK => ?_
   go_simp
   refine hK.out _ _ (kk) (fun hHeld => ?_)
   clear hK
   try simp only [Act.put, qq]
   refine qT 16 ?_
   try simp only [Act.put, qq]
   refine wpAnyH_done (by kernel_rfl) ?_ _
   go_wp2_with fail
   go_meet
   case rel => exact mid.out
 case rest =>
  obtain ⟨gV, rfl, rfl, hmb, hmg, hmv⟩ := hcut
  clear CC HPR
  have S3 := h! (S1.out.below hmb HBS.out)
  have XV := h! hmv
  have hne : gV ≠ W.heap.size + 1 := by have := HS2.out; omega
  have hne2 : W.heap.size + 1 ≠ gV := by omega
  clear hmb hmg hmv S1 XM
  generalize W.heap.size + 1 = gb at S3 hne hne2 ⊢
  obtain ⟨v0, v1, v2, _⟩ := XV.out.three
  have z2 := S3.out.2.1.frozen 2
  have z6 := S3.out.2.1.frozen 6
  have z7 := S3.out.2.1.frozen 7
  obtain ⟨b0, b1, b2, b3, b4, b5, b6, b7, b8, b9⟩ := (show Box wc gb 51 #[.int .i64 (i : Int), .int .i64 f, .int .u8 0, .int .i64 0, .int .i64 0, .int .i64 b, .int .i64 0, .string ⟨#[]⟩, .int .i64 0, .int .i64 0] from S3.out.2.1).ten
  go_upto_region 5 with (fail)
  go_region
  clear b0 b1 b2 b3 b4 b5 b6 b7 b8 b9 z2 z6 z7 v0 v1 v2
  have hm : Box wc gb 51 #[.int .i64 (i : Int), .int .i64 f, .int .u8 0, .int .i64 0, .int .i64 0, .int .i64 b, .int .i64 0, .string ⟨#[]⟩, .int .i64 0, .int .i64 0] := S3.out.2.1
  have hm2 := hm.stored 2 (.int .u8 2)
  have hm3 := hm2.stored 6 (.int .i64 y)
  have hm4 := hm3.stored 7 (.string tv)
  have hm5 : Box (((wc.setCell ⟨gb, 2, none⟩ (.int .u8 2)).setCell ⟨gb, 6, none⟩ (.int .i64 y)).setCell ⟨gb, 7, none⟩ (.string tv)).drew gb 51 #[.int .i64 (i : Int), .int .i64 f, .int .u8 2, .int .i64 0, .int .i64 0, .int .i64 b, .int .i64 y, .string tv, .int .i64 0, .int .i64 0] := by simpa using hm4.drew
  have S4 : Hid (MlS W base g w gb (DC.mk (i : Int) f 2 b y tv) (((wc.setCell ⟨gb, 2, none⟩ (.int .u8 2)).setCell ⟨gb, 6, none⟩ (.int .i64 y)).setCell ⟨gb, 7, none⟩ (.string tv)).drew) := h! (S3.out.store _ ((((Below.refl _ _).setCell (p := ⟨gb, 2, none⟩) n! _).setCell (p := ⟨gb, 6, none⟩) n! _).setCell (p := ⟨gb, 7, none⟩) n! _).drew (fun S hS => ((Kept.set hm hS _).trans ((Kept.set hm2 hS _).trans (Kept.set hm3 hS _))).more ((Below.refl _ _).drew)) (fun q e cs hne hb => ((hb.far (p := ⟨gb, 2, none⟩) hne _).far (p := ⟨gb, 6, none⟩) hne _).far (p := ⟨gb, 7, none⟩) hne _) hm5)
  have XV4 : Hid (Box (((wc.setCell ⟨gb, 2, none⟩ (.int .u8 2)).setCell ⟨gb, 6, none⟩ (.int .i64 y)).setCell ⟨gb, 7, none⟩ (.string tv)).drew gV 59 #[.int .i64 x, .int .i64 y, .string tv]) := h! (((XV.out.far (p := ⟨gb, 2, none⟩) hne _).far (p := ⟨gb, 6, none⟩) hne _).far (p := ⟨gb, 7, none⟩) hne _)
  clear hm hm2 hm3 hm4 hm5 S3 XV
  generalize (((wc.setCell ⟨gb, 2, none⟩ (.int .u8 2)).setCell ⟨gb, 6, none⟩ (.int .i64 y)).setCell ⟨gb, 7, none⟩ (.string tv)).drew = u4 at S4 XV4 ⊢
  obtain ⟨v0, v1, v2, _⟩ := XV4.out.three
  obtain ⟨b0, b1, b2, b3, b4, b5, b6, b7, b8, b9⟩ := (show Box u4 gb 51 #[.int .i64 (i : Int), .int .i64 f, .int .u8 2, .int .i64 0, .int .i64 0, .int .i64 b, .int .i64 y, .string tv, .int .i64 0, .int .i64 0] from S4.out.2.1).ten
  have HVO : Hid (Calls Tryz.prog 81 #[.pointer (some ⟨g, 0, none⟩), .agg #[.int .i64 x, .int .i64 y, .string tv], .int .i64 ee, .agg #[.int .i64 (i : Int), .int .i64 f, .int .u8 2, .int .i64 0, .int .i64 0, .int .i64 b, .int .i64 y, .string tv, .int .i64 0, .int .i64 0]] u4 (VotPost base g w (votedF w i x y tv ee f 2 b y tv) u4)) := h! (voted_any base g i w x y tv ee f 2 b y tv u4 S4.out.1 LV6.out HI.out (Nat.le_trans HBS.out S4.out.2.2.2.2.2.size) (by have := LEN.out.1; omega))
  go_wp2_with fail
  refine HVO.out.mono ?_
  rintro e wz ⟨rfl, hz1, hz2, hz3⟩
  rw [HFIN.out] at hz1
  have HF : Hid (ComPost base g w (DC.mk f (i : Int) 1 b p v) W (.returned (.tuple #[])) wz) := h! ⟨rfl, hz1, S4.out.2.2.2.2.1.trans hz2, below_more S4.out.2.2.2.2.2 hz3⟩
  clear hz1 hz2 hz3 v0 v1 v2 b0 b1 b2 b3 b4 b5 b6 b7 b8 b9 HVO
  go_wp2_with fail
  go_end0
  exact HF.out
set_option maxRecDepth 100000 in
set_option maxHeartbeats 8000000 in
theorem take_3 (base g i : Nat) (w : DC.Wd) (f b p : Int) (v : ByteArray) (W : World) (H : WdAt W base g w) (h0 : DC.May0 w) (hi : i < 6) (hm : DC.MayM (DC.mk f (i : Int) 3 b p v)) (hbase : base ≤ W.heap.size) (hl : w.ml.length ≤ 1000) (hch : w.ch.length ≤ 1000) :
  Calls Tryz.prog 53 #[.pointer (some ⟨g, 0, none⟩), .agg #[.int .i64 f, .int .i64 (i : Int), .int .u8 3, .int .i64 0, .int .i64 0, .int .i64 b, .int .i64 p, .string v, .int .i64 0, .int .i64 0]] W (ComPost base g w (DC.mk f (i : Int) 3 b p v) W) := by
 have hn : DC.isNode (i : Int) := by unfold DC.isNode; omega
 have hgood : BM.good b := hm.2.2.2.2.2.1
 have hvs : v.size ≤ 1024 := hm.2.2.2.2.2.2.2
 have hp0 : 0 ≤ p := hm.2.2.2.2.2.2.1
 have LT6 := h! h0.tl
 have LV6 := h! h0.vl
 have hVv : w.vs[i]? = some (DC.getV w (i : Int)) := by have := DC.getV_at h0.vl hn; rwa [Int.toNat_natCast] at this
 have hvm := h0.vote hn
 obtain ⟨vt, hvt⟩ : ∃ vt, vt = DC.getV w (i : Int) := ⟨_, rfl⟩
 have H0 := h! h0
 have HI := h! hi
 have HBS := h! hbase
 have LEN := h! (And.intro hl hch)
 have hi0 : (0 : Int) ≤ (i : Int) := by omega
 have hi2 : (i : Int) < (w.vs.length : Int) := by have := LV6.out; omega
 have mixed : Tryz.prog.follows Departure.mixedOrders = true := by kernel_rfl
 obtain ⟨W2, hW2⟩ : ∃ W2, W2 = (W.alloc (.cells #[.int .i64 f, .int .i64 (i : Int), .int .u8 3, .int .i64 0, .int .i64 0, .int .i64 b, .int .i64 p, .string v, .int .i64 0, .int .i64 0] 51)).alloc (.cells #[.int .i64 (i : Int), .int .i64 f, .int .u8 0, .int .i64 0, .int .i64 0, .int .i64 b, .int .i64 0, .string ⟨#[]⟩, .int .i64 0, .int .i64 0] 51) := ⟨_, rfl⟩
 have hb2 : Below W.heap.size W W2 := by rw [hW2]; exact ((Below.refl _ _).alloc n! _).alloc (by simp) _
 have hs2 : W2.heap.size = W.heap.size + 1 + 1 := by rw [hW2]; simp
 have hxm : Box W2 W.heap.size 51 #[.int .i64 f, .int .i64 (i : Int), .int .u8 3, .int .i64 0, .int .i64 0, .int .i64 b, .int .i64 p, .string v, .int .i64 0, .int .i64 0] := by rw [hW2]; exact (Box.new _ _ _).alloc _
 have hxb : Box W2 (W.heap.size + 1) 51 #[.int .i64 (i : Int), .int .i64 f, .int .u8 0, .int .i64 0, .int .i64 0, .int .i64 b, .int .i64 0, .string ⟨#[]⟩, .int .i64 0, .int .i64 0] := by rw [hW2]; exact Box.new_at _ (by simp)
 have S1 : Hid (MlS W base g w (W.heap.size + 1) (DC.mk (i : Int) f 0 b 0 .empty) W2) := h! ⟨H.below hb2, hxb, fun u hu => by
  obtain ⟨A0, c0, A1, c1, A2, c2, A3, c3, A4, c4, xs, hgb, hx, o0, o1, o2, ht, o3, o4⟩ := H
  rw [hb2.cell (p := ⟨g, 3, none⟩) hx.lt, hx.five.1.2.2.2.1] at hu
  injection hu with hu
  subst hu
  intro hc
  obtain ⟨_, cur, hd⟩ := own_block o3 hc
  have := hd.lt
  omega, by omega, Kept.of_below hb2, hb2.mono hbase⟩
 have XM := h! hxm
 have HS2 := h! hs2
 obtain ⟨m0, m1, m2, m3, m4, m5, m6, m7, m8, m9⟩ := hxm.ten
 have hx := VM.accIs_ex (DC.getV w (i : Int)).p (DC.getV w (i : Int)).b (DC.getV w (i : Int)).v b v
 obtain ⟨x, y, tv, ee, hprep⟩ := hx
 have hfin := comes_acc (f := f) (p := p) (v := v) hvm hgood hvs hprep
 rw [← hvt] at hvm hprep hVv
 have bv : (-9223372036854775808 ≤ vt.p ∧ vt.p ≤ 9223372036854775807) ∧ (-9223372036854775808 ≤ vt.b ∧ vt.b ≤ 9223372036854775807) ∧ vt.v.size ≤ maxLen := by
  obtain ⟨hp, hb⟩ := hvm
  have h1 : 0 ≤ vt.p ∧ vt.p ≤ 9223372036854775807 := by
   rcases hp with h | h
   ·omega
   ·unfold BM.good at h; omega
  refine ⟨by omega, ?_⟩
  rcases hb with ⟨e1, e2⟩ | ⟨_, e1, _, e3⟩
  ·exact ⟨by omega, by rw [e2]; decide⟩
  ·unfold BM.good at e1; exact ⟨by omega, by unfold maxLen; omega⟩
 have HPR := h! (fun W' => VP.acc_any (s := vt.v) W' bv.1.1 bv.1.2 bv.2.1.1 bv.2.1.2 bv.2.2 (by unfold BM.good at hgood; omega) (by unfold BM.good at hgood; omega) (by unfold maxLen; omega) hprep)
 have HFIN := h! hfin
 obtain ⟨q1, c1, hvc⟩ := S1.out.1.vote hVv
 have CC := h! (fun (w' : World) (hb : Below W2.heap.size W2 w') => (⟨hvc w' hb, (hxm.below hb hxm.lt).cell 1, (hxm.below hb hxm.lt).cell 5, (hxm.below hb hxm.lt).cell 7⟩ : (w'.cell? ⟨g, 1, none⟩ = some (.slice (some ⟨q1, 0, none⟩) w.vs.length c1) ∧ w'.cell? ⟨q1, i * 3, none⟩ = some (.int .i64 vt.p) ∧ w'.cell? ⟨q1, i * 3 + 1, none⟩ = some (.int .i64 vt.b) ∧ w'.cell? ⟨q1, i * 3 + 2, none⟩ = some (.string vt.v)) ∧ w'.cell? ⟨W.heap.size, 1, none⟩ = some (.int .i64 (i : Int)) ∧ w'.cell? ⟨W.heap.size, 5, none⟩ = some (.int .i64 b) ∧ w'.cell? ⟨W.heap.size, 7, none⟩ = some (.string v)))
 clear bv hprep hfin hvc
 clear h0 hn hvm hVv hbase hl hch hgood hvs hp0 hvt hb2 hs2 hxm hxb hm hi H
 go_enter Tryz.func53, Tryz.ntmps53
 go_upto_region 2 with (fail)
 rw [← hW2]
 clear hW2
 go_upto_region 10 with (fail)
 clear m0 m1 m2 m3 m4 m5 m6 m7 m8 m9
 go_cut [7, 8] (fun u5 u6 wx => VoteMid W2 x y tv ee u5 u6 wx)
 case first =>
  have bb1 : Below W2.heap.size W2 W2.drew := (Below.refl _ _).drew
  have bb0 : ∀ ob : Obj, Below W2.heap.size W2 (W2.alloc ob).drew := fun ob => ((Below.refl _ _).alloc n! ob).drew
  refine wp_region_held_drew (S := fun w' => Below W2.heap.size W2 w') (by kernel_rfl) bb1 (fun hHeld => ?_)
  refine wpAnyH_take (i := 0) (v := ?_) rfl (by kernel_rfl) (by kernel_rfl) (by kernel_rfl) (fun _ _ _ h => h) (Or.inl ⟨by rfl, ?_⟩) (by assumption) ?_
  rotate_left
  ·intro w' hSw
   (try dsimp only at hSw)
   obtain ⟨⟨k0, k1, k2, k3⟩, k4, k5, k6⟩ := CC.out _ hSw
   go_simp
   all_goals (with_reducible rfl)
  try simp only [Act.put, qq]
  refine wpAnyH_take (i := 1) (v := ?_) rfl (by kernel_rfl) (by kernel_rfl) (by kernel_rfl) (fun _ _ _ h => h) (Or.inl ⟨by rfl, ?_⟩) (by assumption) ?_
  rotate_left
  ·intro w' hSw
   (try dsimp only at hSw)
   obtain ⟨⟨k0, k1, k2, k3⟩, k4, k5, k6⟩ := CC.out _ hSw
   go_simp
   all_goals (with_reducible rfl)
  try simp only [Act.put, qq]
  refine wpAnyH_take (i := 2) (v := ?_) rfl (by kernel_rfl) (by kernel_rfl) (by kernel_rfl) (fun _ _ _ h => h) (Or.inl ⟨by rfl, ?_⟩) (by assumption) ?_
  rotate_left
  ·intro w' hSw
   (try dsimp only at hSw)
   obtain ⟨⟨k0, k1, k2, k3⟩, k4, k5, k6⟩ := CC.out _ hSw
   go_simp
   all_goals (with_reducible rfl)
  try simp only [Act.put, qq]
  refine wpAnyH_take (i := 3) (v := ?_) rfl (by kernel_rfl) (by kernel_rfl) (by kernel_rfl) (fun _ _ _ h => h) (Or.inl ⟨by rfl, ?_⟩) (by assumption) ?_
  rotate_left
  ·intro w' hSw
   (try dsimp only at hSw)
   obtain ⟨⟨k0, k1, k2, k3⟩, k4, k5, k6⟩ := CC.out _ hSw
   go_simp
   all_goals (with_reducible rfl)
  try simp only [Act.put, qq]
  refine wpAnyH_take (i := 4) (v := ?_) rfl (by kernel_rfl) (by kernel_rfl) (by kernel_rfl) (fun _ _ _ h => h) (Or.inl ⟨by rfl, ?_⟩) (by assumption) ?_
  rotate_left
  ·intro w' hSw
   (try dsimp only at hSw)
   obtain ⟨⟨k0, k1, k2, k3⟩, k4, k5, k6⟩ := CC.out _ hSw
   go_simp
   all_goals (with_reducible rfl)
  try simp only [Act.put, qq]
  refine wpAnyH_take (i := 5) (v := ?_) rfl (by kernel_rfl) (by kernel_rfl) (by kernel_rfl) (fun _ _ _ h => h) (Or.inl ⟨by rfl, ?_⟩) (by assumption) ?_
  rotate_left
  ·intro w' hSw
   (try dsimp only at hSw)
   obtain ⟨⟨k0, k1, k2, k3⟩, k4, k5, k6⟩ := CC.out _ hSw
   go_simp
   all_goals (with_reducible rfl)
  try simp only [Act.put, qq]
  refine wpAnyH_take (i := 6) (v := ?_) rfl (by kernel_rfl) (by kernel_rfl) (by kernel_rfl) (fun _ _ _ h => h) (Or.inl ⟨by rfl, ?_⟩) (by assumption) ?_
  rotate_left
  ·intro w' hSw
   (try dsimp only at hSw)
   obtain ⟨⟨k0, k1, k2, k3⟩, k4, k5, k6⟩ := CC.out _ hSw
   go_simp
   all_goals (with_reducible rfl)
  try simp only [Act.put, qq]
  refine wpAnyH_take (i := 7) (v := ?_) rfl (by kernel_rfl) (by kernel_rfl) (by kernel_rfl) (fun _ _ _ h => h) (Or.inl ⟨by rfl, ?_⟩) (by assumption) ?_
  rotate_left
  ·intro w' hSw
   (try dsimp only at hSw)
   obtain ⟨⟨k0, k1, k2, k3⟩, k4, k5, k6⟩ := CC.out _ hSw
   go_simp
   all_goals (with_reducible rfl)
  try simp only [Act.put, qq]
  refine wpAnyH_take (i := 8) (v := ?_) rfl (by kernel_rfl) (by kernel_rfl) (by kernel_rfl) (fun _ _ _ h => h) (Or.inl ⟨by rfl, ?_⟩) (by assumption) ?_
  rotate_left
  ·intro w' hSw
   (try dsimp only at hSw)
   obtain ⟨⟨k0, k1, k2, k3⟩, k4, k5, k6⟩ := CC.out _ hSw
   go_simp
   all_goals (with_reducible rfl)
  try simp only [Act.put, qq]
  refine wpAnyH_take (i := 9) (v := ?_) rfl (by kernel_rfl) (by kernel_rfl) (by kernel_rfl) (fun _ _ _ h => h) (Or.inl ⟨by rfl, ?_⟩) (by assumption) ?_
  rotate_left
  ·intro w' hSw
   (try dsimp only at hSw)
   obtain ⟨⟨k0, k1, k2, k3⟩, k4, k5, k6⟩ := CC.out _ hSw
   go_simp
   all_goals (with_reducible rfl)
  try simp only [Act.put, qq]
  refine wpAnyH_take (i := 10) (v := ?_) rfl (by kernel_rfl) (by kernel_rfl) (by kernel_rfl) (fun _ _ _ h => h) (Or.inl ⟨by rfl, ?_⟩) (by assumption) ?_
  rotate_left
  ·intro w' hSw
   (try dsimp only at hSw)
   obtain ⟨⟨k0, k1, k2, k3⟩, k4, k5, k6⟩ := CC.out _ hSw
   go_simp
   all_goals (with_reducible rfl)
  try simp only [Act.put, qq]
  refine wpAnyH_take (i := 11) (v := ?_) rfl (by kernel_rfl) (by kernel_rfl) (by kernel_rfl) (fun _ _ _ h => h) (Or.inl ⟨by rfl, ?_⟩) (by assumption) ?_
  rotate_left
  ·intro w' hSw
   (try dsimp only at hSw)
   obtain ⟨⟨k0, k1, k2, k3⟩, k4, k5, k6⟩ := CC.out _ hSw
   go_simp
   all_goals (with_reducible rfl)
  try simp only [Act.put, qq]
  refine wpAnyH_ready (rs := [12, 16]) (by kernel_rfl) (by simp) ?_
  refine AllReadyH.cons rfl (fun K hK => ?_) (AllReadyH.cons rfl (fun K hK => ?_) AllReadyH.nil)
  ·go_simp
   refine (HPR.out _).mono ?_
   rintro e w4 ⟨rfl, hb⟩
   have hq := vm_1 (x := x) (y := y) (e := ee) (t := tv) hb
   have bb2 := hq.1
   have mid := h! hq.2
   clear hq hb
   refine hK.out _ _ (bb2) (fun hHeld => ?_)
   clear hK
   try simp only [Act.put, qq]
   refine qT 13 ?_
   try simp only [Act.put, qq]
   refine qT 14 ?_
   try simp only [Act.put, qq]
   refine qT 15 ?_
   try simp only [Act.put, qq]
   refine qR 16 fun K hK => ?_
   go_simp
   refine hK.out _ _ (bb2.alloc bb2.size _) (fun hHeld => ?_)
   clear hK
   try simp only [Act.put, qq]
   refine qR 17 fun K hK => ?_
   go_simp
   refine hK.out _ _ (bb2.alloc bb2.size _) (fun hHeld => ?_)
   clear hK
   try simp only [Act.put, qq]
   refine qT 18 ?_
   try simp only [Act.put, qq]
   refine wpAnyH_done (by kernel_rfl) ?_ _
   go_wp2_with fail
   go_meet
   case rel => exact mid.out
  ·go_simp
   refine hK.out _ _ (bb0 _) (fun hHeld => ?_)
   clear hK
   try simp only [Act.put, qq]
   refine qR 12 fun K hK => ?_
   go_simp
   refine (HPR.out _).mono ?_
   rintro e w4 ⟨rfl, hb⟩
   have hq := vm_2 (x := x) (y := y) (e := ee) (t := tv) hb
   have bb2 := hq.1
   obtain ⟨r0, r1, r2, z0, z1, z2⟩ := hq.2.1.three
   have mid := h! hq.2.2
   have kk := below_put3 bb2 (g := W2.heap.size) n! (.int .i64 x) (.int .i64 y) (.string tv)
   clear hq hb
   refine hK.out _ _ (bb2) (fun hHeld => ?_)
   clear hK
   try simp only [Act.put, qq]
   refine qT 13 ?_
   try simp only [Act.put, qq]
   refine qT 14 ?_
   try simp only [Act.put, qq]
   refine qT 15 ?_
   try simp only [Act.put, qq]
   refine qR 17 fun K hK => ?_
   go_simp
   refine hK.out _ _ (kk) (fun hHeld => ?_)
   clear hK
   try simp only [Act.put, qq]
   refine qT 18 ?_
   try simp only [Act.put, qq]
   refine wpAnyH_done (by kernel_rfl) ?_ _
   go_wp2_with fail
   go_meet
   case rel => exact mid.out
 case rest =>
  obtain ⟨gV, rfl, rfl, hmb, hmg, hmv⟩ := hcut
  clear CC HPR
  have S3 := h! (S1.out.below hmb HBS.out)
  have XV := h! hmv
  have hne : gV ≠ W.heap.size + 1 := by have := HS2.out; omega
  have hne2 : W.heap.size + 1 ≠ gV := by omega
  clear hmb hmg hmv S1 XM
  generalize W.heap.size + 1 = gb at S3 hne hne2 ⊢
  obtain ⟨v0, v1, v2, _⟩ := XV.out.three
  have z2 := S3.out.2.1.frozen 2
  obtain ⟨b0, b1, b2, b3, b4, b5, b6, b7, b8, b9⟩ := (show Box wc gb 51 #[.int .i64 (i : Int), .int .i64 f, .int .u8 0, .int .i64 0, .int .i64 0, .int .i64 b, .int .i64 0, .string ⟨#[]⟩, .int .i64 0, .int .i64 0] from S3.out.2.1).ten
  go_upto_region 12 with (fail)
  clear b0 b1 b2 b3 b4 b5 b6 b7 b8 b9 z2 v0 v1 v2
  have hm : Box wc gb 51 #[.int .i64 (i : Int), .int .i64 f, .int .u8 0, .int .i64 0, .int .i64 0, .int .i64 b, .int .i64 0, .string ⟨#[]⟩, .int .i64 0, .int .i64 0] := S3.out.2.1
  have hm5 : Box (wc.setCell ⟨gb, 2, none⟩ (.int .u8 4)) gb 51 #[.int .i64 (i : Int), .int .i64 f, .int .u8 4, .int .i64 0, .int .i64 0, .int .i64 b, .int .i64 0, .string ⟨#[]⟩, .int .i64 0, .int .i64 0] := by simpa using hm.stored 2 (.int .u8 4)
  have S4 : Hid (MlS W base g w gb (DC.mk (i : Int) f 4 b 0 .empty) (wc.setCell ⟨gb, 2, none⟩ (.int .u8 4))) := h! (S3.out.store _ ((Below.refl _ _).setCell (p := ⟨gb, 2, none⟩) n! _) (fun S hS => Kept.set hm hS _) (fun q e cs hne hb => hb.far (p := ⟨gb, 2, none⟩) hne _) hm5)
  have XV4 : Hid (Box (wc.setCell ⟨gb, 2, none⟩ (.int .u8 4)) gV 59 #[.int .i64 x, .int .i64 y, .string tv]) := h! (XV.out.far (p := ⟨gb, 2, none⟩) hne _)
  clear hm hm5 S3 XV
  generalize (wc.setCell ⟨gb, 2, none⟩ (.int .u8 4)) = u4 at S4 XV4 ⊢
  obtain ⟨v0, v1, v2, _⟩ := XV4.out.three
  obtain ⟨b0, b1, b2, b3, b4, b5, b6, b7, b8, b9⟩ := (show Box u4 gb 51 #[.int .i64 (i : Int), .int .i64 f, .int .u8 4, .int .i64 0, .int .i64 0, .int .i64 b, .int .i64 0, .string ⟨#[]⟩, .int .i64 0, .int .i64 0] from S4.out.2.1).ten
  have HVO : Hid (Calls Tryz.prog 81 #[.pointer (some ⟨g, 0, none⟩), .agg #[.int .i64 x, .int .i64 y, .string tv], .int .i64 ee, .agg #[.int .i64 (i : Int), .int .i64 f, .int .u8 4, .int .i64 0, .int .i64 0, .int .i64 b, .int .i64 0, .string ⟨#[]⟩, .int .i64 0, .int .i64 0]] u4 (VotPost base g w (votedF w i x y tv ee f 4 b 0 .empty) u4)) := h! (voted_any base g i w x y tv ee f 4 b 0 .empty u4 S4.out.1 LV6.out HI.out (Nat.le_trans HBS.out S4.out.2.2.2.2.2.size) (by have := LEN.out.1; omega))
  go_wp2_with fail
  refine HVO.out.mono ?_
  rintro e wz ⟨rfl, hz1, hz2, hz3⟩
  rw [HFIN.out] at hz1
  have HF : Hid (ComPost base g w (DC.mk f (i : Int) 3 b p v) W (.returned (.tuple #[])) wz) := h! ⟨rfl, hz1, S4.out.2.2.2.2.1.trans hz2, below_more S4.out.2.2.2.2.2 hz3⟩
  clear hz1 hz2 hz3 v0 v1 v2 b0 b1 b2 b3 b4 b5 b6 b7 b8 b9 HVO
  go_wp2_with fail
  go_end0
  exact HF.out
set_option maxRecDepth 100000 in
set_option maxHeartbeats 8000000 in
theorem take_2 (base g i : Nat) (w : DC.Wd) (f b p : Int) (v : ByteArray) (W : World) (H : WdAt W base g w) (h0 : DC.May0 w) (hi : i < 6) (hm : DC.MayM (DC.mk f (i : Int) 2 b p v)) (hpm : p ≤ 9223372036854775807) (hbase : base ≤ W.heap.size) (hl : w.ml.length ≤ 1000) (hch : w.ch.length ≤ 1000) :
  Calls Tryz.prog 53 #[.pointer (some ⟨g, 0, none⟩), .agg #[.int .i64 f, .int .i64 (i : Int), .int .u8 2, .int .i64 0, .int .i64 0, .int .i64 b, .int .i64 p, .string v, .int .i64 0, .int .i64 0]] W (ComPost base g w (DC.mk f (i : Int) 2 b p v) W) := by
 have hn : DC.isNode (i : Int) := by unfold DC.isNode; omega
 have hgood : BM.good b := hm.2.2.2.2.2.1
 have hvs : v.size ≤ 1024 := hm.2.2.2.2.2.2.2
 have hp0 : 0 ≤ p := hm.2.2.2.2.2.2.1
 have LT6 := h! h0.tl
 have LV6 := h! h0.vl
 have hVv : w.vs[i]? = some (DC.getV w (i : Int)) := by have := DC.getV_at h0.vl hn; rwa [Int.toNat_natCast] at this
 have hvm := h0.vote hn
 obtain ⟨vt, hvt⟩ : ∃ vt, vt = DC.getV w (i : Int) := ⟨_, rfl⟩
 have H0 := h! h0
 have HI := h! hi
 have HBS := h! hbase
 have LEN := h! (And.intro hl hch)
 have hi0 : (0 : Int) ≤ (i : Int) := by omega
 have hi2 : (i : Int) < (w.vs.length : Int) := by have := LV6.out; omega
 have mixed : Tryz.prog.follows Departure.mixedOrders = true := by kernel_rfl
 obtain ⟨W2, hW2⟩ : ∃ W2, W2 = (W.alloc (.cells #[.int .i64 f, .int .i64 (i : Int), .int .u8 2, .int .i64 0, .int .i64 0, .int .i64 b, .int .i64 p, .string v, .int .i64 0, .int .i64 0] 51)).alloc (.cells #[.int .i64 (i : Int), .int .i64 f, .int .u8 0, .int .i64 0, .int .i64 0, .int .i64 b, .int .i64 0, .string ⟨#[]⟩, .int .i64 0, .int .i64 0] 51) := ⟨_, rfl⟩
 have hb2 : Below W.heap.size W W2 := by rw [hW2]; exact ((Below.refl _ _).alloc n! _).alloc (by simp) _
 have hs2 : W2.heap.size = W.heap.size + 1 + 1 := by rw [hW2]; simp
 have hxm : Box W2 W.heap.size 51 #[.int .i64 f, .int .i64 (i : Int), .int .u8 2, .int .i64 0, .int .i64 0, .int .i64 b, .int .i64 p, .string v, .int .i64 0, .int .i64 0] := by rw [hW2]; exact (Box.new _ _ _).alloc _
 have hxb : Box W2 (W.heap.size + 1) 51 #[.int .i64 (i : Int), .int .i64 f, .int .u8 0, .int .i64 0, .int .i64 0, .int .i64 b, .int .i64 0, .string ⟨#[]⟩, .int .i64 0, .int .i64 0] := by rw [hW2]; exact Box.new_at _ (by simp)
 have S1 : Hid (MlS W base g w (W.heap.size + 1) (DC.mk (i : Int) f 0 b 0 .empty) W2) := h! ⟨H.below hb2, hxb, fun u hu => by
  obtain ⟨A0, c0, A1, c1, A2, c2, A3, c3, A4, c4, xs, hgb, hx, o0, o1, o2, ht, o3, o4⟩ := H
  rw [hb2.cell (p := ⟨g, 3, none⟩) hx.lt, hx.five.1.2.2.2.1] at hu
  injection hu with hu
  subst hu
  intro hc
  obtain ⟨_, cur, hd⟩ := own_block o3 hc
  have := hd.lt
  omega, by omega, Kept.of_below hb2, hb2.mono hbase⟩
 have XM := h! hxm
 have HS2 := h! hs2
 obtain ⟨m0, m1, m2, m3, m4, m5, m6, m7, m8, m9⟩ := hxm.ten
 have HC := h! (promised_any base g i w b ⟨f, p, v⟩ W2 (H.below hb2) h0 hi ⟨by show _ ≤ p; omega, by have := hm.2.2.2.2.2.2; show p ≤ _; exact hpm, by show v.size ≤ _; unfold maxLen; omega⟩ (by have := hb2.size; omega) (by omega) (by omega))
 have HFIN : Hid (DC.comes w (DC.mk f (i : Int) 2 b p v) = DC.takes w (i : Int) b ⟨f, p, v⟩) := h! rfl
 clear h0 hn hvm hVv hbase hl hch hgood hvs hp0 hvt hb2 hs2 hxm hxb hm hi H
 go_enter Tryz.func53, Tryz.ntmps53
 go_upto_region 2 with (fail)
 rw [← hW2]
 clear hW2
 go_wp2_with fail
 refine HC.out.mono ?_
 rintro e wz ⟨rfl, hz1, hz2, hz3⟩
 rw [← HFIN.out] at hz1
 have HF : Hid (ComPost base g w (DC.mk f (i : Int) 2 b p v) W (.returned (.tuple #[])) wz) := h! ⟨rfl, hz1, S1.out.2.2.2.2.1.trans hz2, below_more S1.out.2.2.2.2.2 hz3⟩
 clear hz1 hz2 hz3 HC m0 m1 m2 m3 m4 m5 m6 m7 m8 m9
 go_wp2_with fail
 go_end0
 exact HF.out
set_option maxRecDepth 100000 in
set_option maxHeartbeats 8000000 in
theorem take_4 (base g i : Nat) (w : DC.Wd) (f b p : Int) (v : ByteArray) (W : World) (H : WdAt W base g w) (h0 : DC.May0 w) (hi : i < 6) (hm : DC.MayM (DC.mk f (i : Int) 4 b p v)) (hbase : base ≤ W.heap.size) (hl : w.ml.length ≤ 1000) (hch : w.ch.length ≤ 1000) :
  Calls Tryz.prog 53 #[.pointer (some ⟨g, 0, none⟩), .agg #[.int .i64 f, .int .i64 (i : Int), .int .u8 4, .int .i64 0, .int .i64 0, .int .i64 b, .int .i64 p, .string v, .int .i64 0, .int .i64 0]] W (ComPost base g w (DC.mk f (i : Int) 4 b p v) W) := by
 have hn : DC.isNode (i : Int) := by unfold DC.isNode; omega
 have hgood : BM.good b := hm.2.2.2.2.2.1
 have hvs : v.size ≤ 1024 := hm.2.2.2.2.2.2.2
 have hp0 : 0 ≤ p := hm.2.2.2.2.2.2.1
 have LT6 := h! h0.tl
 have LV6 := h! h0.vl
 have hVv : w.vs[i]? = some (DC.getV w (i : Int)) := by have := DC.getV_at h0.vl hn; rwa [Int.toNat_natCast] at this
 have hvm := h0.vote hn
 obtain ⟨vt, hvt⟩ : ∃ vt, vt = DC.getV w (i : Int) := ⟨_, rfl⟩
 have H0 := h! h0
 have HI := h! hi
 have HBS := h! hbase
 have LEN := h! (And.intro hl hch)
 have hi0 : (0 : Int) ≤ (i : Int) := by omega
 have hi2 : (i : Int) < (w.vs.length : Int) := by have := LV6.out; omega
 have mixed : Tryz.prog.follows Departure.mixedOrders = true := by kernel_rfl
 obtain ⟨W2, hW2⟩ : ∃ W2, W2 = (W.alloc (.cells #[.int .i64 f, .int .i64 (i : Int), .int .u8 4, .int .i64 0, .int .i64 0, .int .i64 b, .int .i64 p, .string v, .int .i64 0, .int .i64 0] 51)).alloc (.cells #[.int .i64 (i : Int), .int .i64 f, .int .u8 0, .int .i64 0, .int .i64 0, .int .i64 b, .int .i64 0, .string ⟨#[]⟩, .int .i64 0, .int .i64 0] 51) := ⟨_, rfl⟩
 have hb2 : Below W.heap.size W W2 := by rw [hW2]; exact ((Below.refl _ _).alloc n! _).alloc (by simp) _
 have hs2 : W2.heap.size = W.heap.size + 1 + 1 := by rw [hW2]; simp
 have hxm : Box W2 W.heap.size 51 #[.int .i64 f, .int .i64 (i : Int), .int .u8 4, .int .i64 0, .int .i64 0, .int .i64 b, .int .i64 p, .string v, .int .i64 0, .int .i64 0] := by rw [hW2]; exact (Box.new _ _ _).alloc _
 have hxb : Box W2 (W.heap.size + 1) 51 #[.int .i64 (i : Int), .int .i64 f, .int .u8 0, .int .i64 0, .int .i64 0, .int .i64 b, .int .i64 0, .string ⟨#[]⟩, .int .i64 0, .int .i64 0] := by rw [hW2]; exact Box.new_at _ (by simp)
 have S1 : Hid (MlS W base g w (W.heap.size + 1) (DC.mk (i : Int) f 0 b 0 .empty) W2) := h! ⟨H.below hb2, hxb, fun u hu => by
  obtain ⟨A0, c0, A1, c1, A2, c2, A3, c3, A4, c4, xs, hgb, hx, o0, o1, o2, ht, o3, o4⟩ := H
  rw [hb2.cell (p := ⟨g, 3, none⟩) hx.lt, hx.five.1.2.2.2.1] at hu
  injection hu with hu
  subst hu
  intro hc
  obtain ⟨_, cur, hd⟩ := own_block o3 hc
  have := hd.lt
  omega, by omega, Kept.of_below hb2, hb2.mono hbase⟩
 have XM := h! hxm
 have HS2 := h! hs2
 obtain ⟨m0, m1, m2, m3, m4, m5, m6, m7, m8, m9⟩ := hxm.ten
 have HC := h! (accepted_any base g i w b f W2 (H.below hb2) h0 hi (by have := hb2.size; omega) (by omega))
 have HFIN : Hid (DC.comes w (DC.mk f (i : Int) 4 b p v) = accF w (i : Int) b f) := h! rfl
 clear h0 hn hvm hVv hbase hl hch hgood hvs hp0 hvt hb2 hs2 hxm hxb hm hi H
 go_enter Tryz.func53, Tryz.ntmps53
 go_upto_region 2 with (fail)
 rw [← hW2]
 clear hW2
 go_wp2_with fail
 refine HC.out.mono ?_
 rintro e wz ⟨rfl, hz1, hz2, hz3⟩
 rw [← HFIN.out] at hz1
 have HF : Hid (ComPost base g w (DC.mk f (i : Int) 4 b p v) W (.returned (.tuple #[])) wz) := h! ⟨rfl, hz1, S1.out.2.2.2.2.1.trans hz2, below_more S1.out.2.2.2.2.2 hz3⟩
 clear hz1 hz2 hz3 HC m0 m1 m2 m3 m4 m5 m6 m7 m8 m9
 go_wp2_with fail
 go_end0
 exact HF.out
set_option maxRecDepth 100000 in
set_option maxHeartbeats 8000000 in
theorem take_5 (base g i : Nat) (w : DC.Wd) (f b p : Int) (v : ByteArray) (W : World) (H : WdAt W base g w) (h0 : DC.May0 w) (hi : i < 6) (hm : DC.MayM (DC.mk f (i : Int) 5 b p v)) (hbase : base ≤ W.heap.size) (hl : w.ml.length ≤ 1000) (hch : w.ch.length ≤ 1000) :
  Calls Tryz.prog 53 #[.pointer (some ⟨g, 0, none⟩), .agg #[.int .i64 f, .int .i64 (i : Int), .int .u8 5, .int .i64 0, .int .i64 0, .int .i64 b, .int .i64 p, .string v, .int .i64 0, .int .i64 0]] W (ComPost base g w (DC.mk f (i : Int) 5 b p v) W) := by
 have hn : DC.isNode (i : Int) := by unfold DC.isNode; omega
 have hgood : BM.good b := hm.2.2.2.2.2.1
 have hvs : v.size ≤ 1024 := hm.2.2.2.2.2.2.2
 have hp0 : 0 ≤ p := hm.2.2.2.2.2.2.1
 have LT6 := h! h0.tl
 have LV6 := h! h0.vl
 have hVv : w.vs[i]? = some (DC.getV w (i : Int)) := by have := DC.getV_at h0.vl hn; rwa [Int.toNat_natCast] at this
 have hvm := h0.vote hn
 obtain ⟨vt, hvt⟩ : ∃ vt, vt = DC.getV w (i : Int) := ⟨_, rfl⟩
 have H0 := h! h0
 have HI := h! hi
 have HBS := h! hbase
 have LEN := h! (And.intro hl hch)
 have hi0 : (0 : Int) ≤ (i : Int) := by omega
 have hi2 : (i : Int) < (w.vs.length : Int) := by have := LV6.out; omega
 have mixed : Tryz.prog.follows Departure.mixedOrders = true := by kernel_rfl
 obtain ⟨W2, hW2⟩ : ∃ W2, W2 = (W.alloc (.cells #[.int .i64 f, .int .i64 (i : Int), .int .u8 5, .int .i64 0, .int .i64 0, .int .i64 b, .int .i64 p, .string v, .int .i64 0, .int .i64 0] 51)).alloc (.cells #[.int .i64 (i : Int), .int .i64 f, .int .u8 0, .int .i64 0, .int .i64 0, .int .i64 b, .int .i64 0, .string ⟨#[]⟩, .int .i64 0, .int .i64 0] 51) := ⟨_, rfl⟩
 have hb2 : Below W.heap.size W W2 := by rw [hW2]; exact ((Below.refl _ _).alloc n! _).alloc (by simp) _
 have hs2 : W2.heap.size = W.heap.size + 1 + 1 := by rw [hW2]; simp
 have hxm : Box W2 W.heap.size 51 #[.int .i64 f, .int .i64 (i : Int), .int .u8 5, .int .i64 0, .int .i64 0, .int .i64 b, .int .i64 p, .string v, .int .i64 0, .int .i64 0] := by rw [hW2]; exact (Box.new _ _ _).alloc _
 have hxb : Box W2 (W.heap.size + 1) 51 #[.int .i64 (i : Int), .int .i64 f, .int .u8 0, .int .i64 0, .int .i64 0, .int .i64 b, .int .i64 0, .string ⟨#[]⟩, .int .i64 0, .int .i64 0] := by rw [hW2]; exact Box.new_at _ (by simp)
 have S1 : Hid (MlS W base g w (W.heap.size + 1) (DC.mk (i : Int) f 0 b 0 .empty) W2) := h! ⟨H.below hb2, hxb, fun u hu => by
  obtain ⟨A0, c0, A1, c1, A2, c2, A3, c3, A4, c4, xs, hgb, hx, o0, o1, o2, ht, o3, o4⟩ := H
  rw [hb2.cell (p := ⟨g, 3, none⟩) hx.lt, hx.five.1.2.2.2.1] at hu
  injection hu with hu
  subst hu
  intro hc
  obtain ⟨_, cur, hd⟩ := own_block o3 hc
  have := hd.lt
  omega, by omega, Kept.of_below hb2, hb2.mono hbase⟩
 have XM := h! hxm
 have HS2 := h! hs2
 obtain ⟨m0, m1, m2, m3, m4, m5, m6, m7, m8, m9⟩ := hxm.ten
 have HF : Hid (ComPost base g w (DC.mk f (i : Int) 5 b p v) W (.returned (.tuple #[])) W2) := h! ⟨rfl, H.below hb2, Kept.of_below hb2, hb2.mono hbase⟩
 clear h0 hn hvm hVv hbase hl hch hgood hvs hp0 hvt hb2 hs2 hxm hxb hm hi H
 go_enter Tryz.func53, Tryz.ntmps53
 go_upto_region 2 with (fail)
 rw [← hW2]
 clear hW2
 go_wp2_with fail
 go_end0
 exact HF.out
theorem take_any (base g : Nat) (w : DC.Wd) (m : DC.Ml) (W : World) (H : WdAt W base g w) (h0 : DC.May0 w) (hm : DC.MayM m) (hpm : m.p ≤ 9223372036854775807) (hbase : base ≤ W.heap.size) (hl : w.ml.length ≤ 1000) (hch : w.ch.length ≤ 1000) :
  Calls Tryz.prog 53 #[.pointer (some ⟨g, 0, none⟩), .agg (mcell m).toArray] W (ComPost base g w m W) := by
 obtain ⟨f, t, k, g', s, b, p, v, a, c⟩ := m
 obtain ⟨e, h1, h2, h3, h4, h5, h6, h7⟩ := id hm
 simp only [DC.mk, DC.Ml.mk.injEq] at e
 obtain ⟨_, _, _, rfl, rfl, _, _, _, rfl, rfl⟩ := e
 have h2' : 0 ≤ t ∧ t < 6 := h2
 obtain ⟨i, rfl⟩ : ∃ i : Nat, t = (i : Int) := ⟨t.toNat, by omega⟩
 have hi : i < 6 := by omega
 have h3' : 1 ≤ k := h3
 have h4' : k ≤ 5 := h4
 have hk : k = 1 ∨ k = 2 ∨ k = 3 ∨ k = 4 ∨ k = 5 := by omega
 rcases hk with rfl | rfl | rfl | rfl | rfl
 ·exact take_1 base g i w f b p v W H h0 hi hm hbase hl hch
 ·exact take_2 base g i w f b p v W H h0 hi hm hpm hbase hl hch
 ·exact take_3 base g i w f b p v W H h0 hi hm hbase hl hch
 ·exact take_4 base g i w f b p v W H h0 hi hm hbase hl hch
 ·exact take_5 base g i w f b p v W H h0 hi hm hbase hl hch
end Go.Proofs.YtiiobafcgdelmaaGreat.PD
