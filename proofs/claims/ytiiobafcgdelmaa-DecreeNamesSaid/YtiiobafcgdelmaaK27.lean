/-
  What package decree's begin leaves: a node begins. Conditions: the world may be; the value is not too long.
-/
import Derived.Test.YtiiobafcgdelmaaK24
import Derived.Test.YtiiobafcgdelmaaK26
namespace Go.Proofs.Ytiiobafcgdelmaa.PD
open Go.RowKit Go.Shelf
set_option linter.unusedVariables false
set_option linter.unusedSimpArgs false

def BegPost (base g : Nat) (w : DC.Wd) (n : Int) (s : ByteArray) (W : World) (e : Ending) (W' : World) : Prop :=
  (1048576 < BM.rnd (DC.getV w n).p n ∧ e = .returned (.int .i64 9) ∧ WdAt W' base g w ∧ Kept isTk W W' ∧ Below base W W') ∨
  (BM.rnd (DC.getV w n).p n ≤ 1048576 ∧ e = .returned (.int .i64 0) ∧ WdAt W' base g (DC.begins w n s) ∧ Kept isTk W W' ∧ Below base W W')
/-- the world, and a vote's variable beside it -/
def BgS (W : World) (base g : Nat) (w : DC.Wd) (gv : Nat) (v : DC.Vt) (wx : World) : Prop :=
  WdAt wx base g w ∧ Box wx gv 53 #[.int .i64 v.p, .int .i64 v.b, .string v.v] ∧ Kept isTk W wx ∧ Below base W wx
theorem BgS.below {W wx wy : World} {base g gv : Nat} {w : DC.Wd} {v : DC.Vt} (h : BgS W base g w gv v wx) (hb : Below wx.heap.size wx wy) (hbase : base ≤ W.heap.size) : BgS W base g w gv v wy :=
  ⟨h.1.below hb, h.2.1.below hb h.2.1.lt, h.2.2.1.more hb, bmore h.2.2.2 hb hbase⟩
theorem next_is {p n : Int} (hp : VM.okP p) (hn : DC.isNode n) : (BM.rnd p n ≤ 1048576 → BM.NextIs p n (DC.nextB p n) 0) ∧ (1048576 < BM.rnd p n → BM.NextIs p n 0 9) := by
  have ha : BM.asks p n := by
    unfold DC.isNode at hn
    refine ⟨hn.1, hn.2, ?_, ?_⟩
    · rcases hp with h | h
      · omega
      · unfold BM.good at h; omega
    · rcases hp with h | h
      · omega
      · unfold BM.good at h; omega
  exact ⟨fun h => .inl ⟨ha, h, rfl, rfl⟩, fun h => .inr (.inl ⟨ha, h, rfl, rfl⟩)⟩
theorem start_form {w : World} {base : Nat} {v : Value} {ms : List Int} {b : Int} {s : ByteArray} (h : AtOwn w base v (AM.start ms b s)) :
    ∃ A c D q C f, v = .agg #[.int .u8 1, .int .i64 b, .slice A ms.length c, .string s, .string ⟨#[]⟩, .slice D 0 q, .slice C 0 f] := by
  obtain ⟨A, c, D, q, C, f, rfl⟩ := h.form
  exact ⟨A, c, D, q, C, f, rfl⟩
theorem begins_alone {w : DC.Wd} {i : Nat} {s : ByteArray} (hi : i < w.ts.length) (h : QM.has w.ms (i : Int) = false) : DC.begins w (i : Int) s = DC.begin1 w (i : Int) s := by
  unfold DC.begins DC.takes
  rw [if_neg]
  intro he
  obtain ⟨_, _, _, g4, _⟩ := AM.errP_zero he
  have e : DC.getT (DC.begin1 w (i : Int) s) (i : Int) = AM.start w.ms (DC.nextB (DC.getV w (i : Int)).p (i : Int)) s := by
    unfold DC.getT DC.begin1
    simp only [Int.toNat_natCast]
    rw [List.getElem?_set_self hi]; rfl
  rw [e] at g4
  have g5 : QM.has w.ms (i : Int) = true := g4
  rw [h] at g5
  cases g5

/-- the world's header stays -/
theorem WdAt.kept_hd {U U' : World} {base g : Nat} {w : DC.Wd} {S : TypeId → Prop} (h : WdAt U base g w) (k : Kept S U U') (hs : ¬ S 58) {j : Nat} : U'.cell? ⟨g, j, none⟩ = U.cell? ⟨g, j, none⟩ := by
  obtain ⟨A0, c0, A1, c1, A2, c2, A3, c3, A4, c4, xs, hgb, hx, _⟩ := h
  rw [(k.box _ _ _ hs hx).cell j, hx.cell j]

set_option maxRecDepth 100000 in
set_option maxHeartbeats 8000000 in
theorem wbegin_any (base g i : Nat) (w : DC.Wd) (s : ByteArray) (W : World) (H : WdAt W base g w) (h0 : DC.May0 w) (hi : i < 6) (hs : s.size ≤ 1024) (hbase : base ≤ W.heap.size) (hl : w.ml.length ≤ 1000) (hch : w.ch.length ≤ 1000) :
    Calls Try.prog 33 #[.pointer (some ⟨g, 0, none⟩), .int .i64 (i : Int), .string s] W (BegPost base g w (i : Int) s W) := by
  have hn : DC.isNode (i : Int) := by unfold DC.isNode; omega
  have LT6 := Lib.hid h0.tl
  have LV6 := Lib.hid h0.vl
  have hVv : w.vs[i]? = some (DC.getV w (i : Int)) := by have := DC.getV_at h0.vl hn; rwa [Int.toNat_natCast] at this
  have hvm := h0.vote hn
  obtain ⟨vt, hvt⟩ : ∃ vt, vt = DC.getV w (i : Int) := ⟨_, rfl⟩
  obtain ⟨nb, hnb⟩ : ∃ nb, nb = DC.nextB (DC.getV w (i : Int)).p (i : Int) := ⟨_, rfl⟩
  have hnx := next_is hvm.1 hn
  have hgt := DC.next_gt hvm.1 hn
  rw [← hnb] at hnx hgt
  obtain ⟨q, c, hcell⟩ := H.vote hVv
  obtain ⟨t0, t1, t2, t3⟩ := hcell W (Below.refl _ _)
  rw [← hvt] at t1 t2 t3
  have H0 := Lib.hid h0
  have HMS := Lib.hid h0.ms
  have HBS := Lib.hid hbase
  have HN := Lib.hid hn
  have HI := Lib.hid hi
  have HVM := Lib.hid hvm
  have LEN := Lib.hid (And.intro hl hch)
  have HSS := Lib.hid hs
  have HNB := Lib.hid hnb
  have HNX := Lib.hid hnx
  have HGT := Lib.hid hgt
  have HVT := Lib.hid hvt
  have hi0 : (0 : Int) ≤ (i : Int) := by omega
  have hi2 : (i : Int) < (w.vs.length : Int) := by have := LV6.out; omega
  have hi1 : (i : Int) < (w.ts.length : Int) := by have := LT6.out; omega
  have S1 : Hid (BgS W base g w W.heap.size vt (W.alloc (.cells #[.int .i64 vt.p, .int .i64 vt.b, .string vt.v] 53))) := Lib.hid ⟨H.below ((Below.refl _ _).alloc (Nat.le_refl _) _), Box.new _ _ _, Kept.of_below ((Below.refl _ _).alloc (Nat.le_refl _) _), (Below.refl _ _).alloc HBS.out _⟩
  have mixed : Try.prog.follows Departure.mixedOrders = true := by kernel_rfl
  clear h0 hn hvm hVv hbase hl hch hs hnx hgt hnb hvt hcell H hi
  go_enter Try.func33, Try.ntmps33
  go_upto_region 2 with (fail)
  clear t0 t1 t2 t3
  generalize W.alloc (.cells #[.int .i64 vt.p, .int .i64 vt.b, .string vt.v] 53) = u1 at S1 ⊢
  generalize W.heap.size = gv at S1 ⊢
  obtain ⟨v0, v1, v2, _⟩ := S1.out.2.1.three
  rcases Int.lt_or_le 1048576 (BM.rnd (DC.getV w (i : Int)).p (i : Int)) with hr | hr
  · have HC := Lib.hid (next_any (HNX.out.2 hr) u1)
    rw [← HVT.out] at HC
    have HF : Hid (BegPost base g w (i : Int) s W (.returned (.int .i64 9)) u1) := Lib.hid (.inl ⟨hr, rfl, S1.out.1, S1.out.2.2.1, S1.out.2.2.2⟩)
    clear hr
    go_wp2_with fail
    refine HC.out.mono ?_
    rintro e w2 ⟨rfl, rfl⟩
    go_wp2_with fail
    go_ret
    exact HF.out
  have HC := Lib.hid (next_any (HNX.out.1 hr) u1)
  rw [← HVT.out] at HC
  have HR := Lib.hid hr
  have hgood := HGT.out.2.2 hr
  have HGD := Lib.hid hgood
  clear hr hgood
  go_wp2_with fail
  refine HC.out.mono ?_
  rintro e w2 ⟨rfl, rfl⟩
  clear HC v0 v1 v2
  obtain ⟨x, y, tv, ee, hprep⟩ := VM.prepIs_ex vt.p vt.b vt.v nb
  have hvm2 : VM.may vt.p vt.b vt.v := by have := HVM.out; rwa [← HVT.out] at this
  have hpg := VM.prep_good hprep hvm2 HGD.out (by have := HGT.out.1; rw [← HVT.out] at this; exact Int.le_of_lt this)
  have bv : (-9223372036854775808 ≤ vt.p ∧ vt.p ≤ 9223372036854775807) ∧ (-9223372036854775808 ≤ vt.b ∧ vt.b ≤ 9223372036854775807) ∧ vt.v.size ≤ maxLen := by
    obtain ⟨hp, hb⟩ := hvm2
    have h1 : 0 ≤ vt.p ∧ vt.p ≤ 9223372036854775807 := by
      rcases hp with h | h
      · omega
      · unfold BM.good at h; omega
    refine ⟨by omega, ?_⟩
    rcases hb with ⟨e1, e2⟩ | ⟨_, e1, _, e3⟩
    · exact ⟨by omega, by rw [e2]; decide⟩
    · unfold BM.good at e1; exact ⟨by omega, by unfold maxLen; omega⟩
  have HPR := Lib.hid (fun W' => VP.prep_any (s := vt.v) W' bv.1.1 bv.1.2 bv.2.1.1 bv.2.1.2 bv.2.2 (by have := HGD.out; unfold BM.good at this; omega) (by have := HGD.out; unfold BM.good at this; omega) hprep)
  obtain ⟨px, py, pt, pe⟩ := hpg
  rw [px, py, pt, pe] at HPR
  clear px py pt pe hprep bv hvm2
  go_upto_region 5 with (fail)
  obtain ⟨q1, c1, hq1, hq1l, d1, _, _, _⟩ := S1.out.1.storeV LV6.out HI.out
  clear hq1 hq1l
  obtain ⟨v0, v1, v2, _⟩ := S1.out.2.1.three
  have hgl := S1.out.1.lt.2
  have hvl := S1.out.2.1.lt
  have CC := Lib.hid (fun (w' : World) (hb : Below u1.heap.size u1 w') => (⟨(hb.cell (p := ⟨g, 1, none⟩) hgl).trans d1, (hb.cell (p := ⟨gv, 0, none⟩) hvl).trans v0, (hb.cell (p := ⟨gv, 1, none⟩) hvl).trans v1, (hb.cell (p := ⟨gv, 2, none⟩) hvl).trans v2⟩ : w'.cell? ⟨g, 1, none⟩ = some (.slice (some ⟨q1, 0, none⟩) w.vs.length c1) ∧ w'.cell? ⟨gv, 0, none⟩ = some (.int .i64 vt.p) ∧ w'.cell? ⟨gv, 1, none⟩ = some (.int .i64 vt.b) ∧ w'.cell? ⟨gv, 2, none⟩ = some (.string vt.v)))
  clear v0 v1 v2 hgl hvl d1
  go_cut [9] (fun u9 wx => u9 = .int .i64 0 ∧ BgS W base g ⟨w.ms, w.vs.set i ⟨nb, vt.b, vt.v⟩, w.ts, w.ml, w.ch⟩ gv vt wx)
  case first =>
    have bb1 : Below u1.heap.size u1 u1.drew := (Below.refl _ _).drew
    have hS0 := CC.out _ bb1
    refine wp_region_held_drew (S := fun w' => w'.cell? ⟨g, 1, none⟩ = some (.slice (some ⟨q1, 0, none⟩) w.vs.length c1) ∧ w'.cell? ⟨gv, 0, none⟩ = some (.int .i64 vt.p) ∧ w'.cell? ⟨gv, 1, none⟩ = some (.int .i64 vt.b) ∧ w'.cell? ⟨gv, 2, none⟩ = some (.string vt.v)) (by kernel_rfl) hS0 (fun hHeld => ?_)
    refine wpAnyH_take (i := 0) (v := ?_) rfl (by kernel_rfl) (by kernel_rfl) (by kernel_rfl) (fun _ _ _ h => h) (Or.inl ⟨by rfl, ?_⟩) (by assumption) ?_
    rotate_left
    · intro w' hSw
      (try dsimp only at hSw)
      go_simp
      all_goals (with_reducible rfl)
    try simp only [Act.put, List.setIfInBounds_toArray, List.set_cons_zero, List.set_cons_succ, List.getElem_toArray, List.getElem_cons_zero, List.getElem_cons_succ]
    refine wpAnyH_take (i := 1) (v := ?_) rfl (by kernel_rfl) (by kernel_rfl) (by kernel_rfl) (fun _ _ _ h => h) (Or.inl ⟨by rfl, ?_⟩) (by assumption) ?_
    rotate_left
    · intro w' hSw
      (try dsimp only at hSw)
      go_simp
      all_goals (with_reducible rfl)
    try simp only [Act.put, List.setIfInBounds_toArray, List.set_cons_zero, List.set_cons_succ, List.getElem_toArray, List.getElem_cons_zero, List.getElem_cons_succ]
    refine wpAnyH_take (i := 2) (v := ?_) rfl (by kernel_rfl) (by kernel_rfl) (by kernel_rfl) (fun _ _ _ h => h) (Or.inl ⟨by rfl, ?_⟩) (by assumption) ?_
    rotate_left
    · intro w' hSw
      (try dsimp only at hSw)
      go_simp
      all_goals (with_reducible rfl)
    try simp only [Act.put, List.setIfInBounds_toArray, List.set_cons_zero, List.set_cons_succ, List.getElem_toArray, List.getElem_cons_zero, List.getElem_cons_succ]
    refine wpAnyH_take (i := 3) (v := ?_) rfl (by kernel_rfl) (by kernel_rfl) (by kernel_rfl) (fun _ _ _ h => h) (Or.inl ⟨by rfl, ?_⟩) (by assumption) ?_
    rotate_left
    · intro w' hSw
      (try dsimp only at hSw)
      go_simp
      all_goals (with_reducible rfl)
    try simp only [Act.put, List.setIfInBounds_toArray, List.set_cons_zero, List.set_cons_succ, List.getElem_toArray, List.getElem_cons_zero, List.getElem_cons_succ]
    refine wpAnyH_take (i := 4) (v := ?_) rfl (by kernel_rfl) (by kernel_rfl) (by kernel_rfl) (fun _ _ _ h => h) (Or.inl ⟨by rfl, ?_⟩) (by assumption) ?_
    rotate_left
    · intro w' hSw
      (try dsimp only at hSw)
      go_simp
      all_goals (with_reducible rfl)
    try simp only [Act.put, List.setIfInBounds_toArray, List.set_cons_zero, List.set_cons_succ, List.getElem_toArray, List.getElem_cons_zero, List.getElem_cons_succ]
    refine wpAnyH_take (i := 5) (v := ?_) rfl (by kernel_rfl) (by kernel_rfl) (by kernel_rfl) (fun _ _ _ h => h) (Or.inl ⟨by rfl, ?_⟩) (by assumption) ?_
    rotate_left
    · intro w' hSw
      (try dsimp only at hSw)
      go_simp
      all_goals (with_reducible rfl)
    try simp only [Act.put, List.setIfInBounds_toArray, List.set_cons_zero, List.set_cons_succ, List.getElem_toArray, List.getElem_cons_zero, List.getElem_cons_succ]
    refine wpAnyH_take (i := 6) (v := ?_) rfl (by kernel_rfl) (by kernel_rfl) (by kernel_rfl) (fun _ _ _ h => h) (Or.inl ⟨by rfl, ?_⟩) (by assumption) ?_
    rotate_left
    · intro w' hSw
      (try dsimp only at hSw)
      go_simp
      all_goals (with_reducible rfl)
    try simp only [Act.put, List.setIfInBounds_toArray, List.set_cons_zero, List.set_cons_succ, List.getElem_toArray, List.getElem_cons_zero, List.getElem_cons_succ]
    refine wpAnyH_ready (rs := [7]) (by kernel_rfl) (by simp) ?_
    refine AllReadyH.cons rfl (fun K hK => ?_) AllReadyH.nil
    go_simp
    refine (HPR.out _).mono ?_
    rintro e w4 ⟨rfl, hb4⟩
    have bb2 := bmore bb1 hb4 (Nat.le_refl _)
    have hS1 := CC.out _ bb2
    have S2 := S1.out.below bb2 HBS.out
    obtain ⟨q2, c2, hq2, hq2l, d2, hthere, hst, hfar⟩ := S2.1.storeV LV6.out HI.out
    rw [hS1.1] at d2
    injection d2 with d2
    injection d2 with d2 _ d3
    injection d2 with d2
    injection d2 with d2
    subst d2 d3
    obtain ⟨hs1, hs2, hs3, hs4⟩ := hst ⟨nb, vt.b, vt.v⟩
    have hxV := hfar gv _ S2.2.1 rfl (.int .i64 nb) (.int .i64 vt.b) (.string vt.v)
    have NX : Hid (BgS W base g ⟨w.ms, w.vs.set i ⟨nb, vt.b, vt.v⟩, w.ts, w.ml, w.ch⟩ gv vt (putAt3 w4 q1 (i * 3) (.int .i64 nb) (.int .i64 vt.b) (.string vt.v))) :=
      Lib.hid ⟨hs1, hxV, S2.2.2.1.trans (hs2.mono fun _ h => tk_of_v h), below_more S2.2.2.2 hs3⟩
    obtain ⟨r0, r1, r2, _⟩ := hxV.three
    have hS2 := And.intro hs4 (And.intro r0 (And.intro r1 r2))
    clear hst hfar hs1 hs2 hs3 hs4 hxV r0 r1 r2 S2 hb4 bb2 hq2 hq2l
    refine hK.out _ _ (hS1) (fun hHeld => ?_)
    clear hK
    try simp only [Act.put, List.setIfInBounds_toArray, List.set_cons_zero, List.set_cons_succ, List.getElem_toArray, List.getElem_cons_zero, List.getElem_cons_succ]
    refine wpAnyH_take (i := 8) (v := ?_) rfl (by kernel_rfl) (by kernel_rfl) (by kernel_rfl) (fun _ _ _ h => h) (Or.inl ⟨by rfl, ?_⟩) (by assumption) ?_
    rotate_left
    · intro w' hSw
      (try dsimp only at hSw)
      go_simp
      all_goals (with_reducible rfl)
    try simp only [Act.put, List.setIfInBounds_toArray, List.set_cons_zero, List.set_cons_succ, List.getElem_toArray, List.getElem_cons_zero, List.getElem_cons_succ]
    refine wpAnyH_take (i := 9) (v := ?_) rfl (by kernel_rfl) (by kernel_rfl) (by kernel_rfl) (fun _ _ _ h => h) (Or.inl ⟨by rfl, ?_⟩) (by assumption) ?_
    rotate_left
    · intro w' hSw
      (try dsimp only at hSw)
      go_simp
      all_goals (with_reducible rfl)
    try simp only [Act.put, List.setIfInBounds_toArray, List.set_cons_zero, List.set_cons_succ, List.getElem_toArray, List.getElem_cons_zero, List.getElem_cons_succ]
    refine wpAnyH_take (i := 10) (v := ?_) rfl (by kernel_rfl) (by kernel_rfl) (by kernel_rfl) (fun _ _ _ h => h) (Or.inl ⟨by rfl, ?_⟩) (by assumption) ?_
    rotate_left
    · intro w' hSw
      (try dsimp only at hSw)
      go_simp
      all_goals (with_reducible rfl)
    try simp only [Act.put, List.setIfInBounds_toArray, List.set_cons_zero, List.set_cons_succ, List.getElem_toArray, List.getElem_cons_zero, List.getElem_cons_succ]
    refine wpAnyH_take (i := 11) (v := ?_) rfl (by kernel_rfl) (by kernel_rfl) (by kernel_rfl) (fun _ _ _ h => h) (Or.inl ⟨by rfl, ?_⟩) (by assumption) ?_
    rotate_left
    · intro w' hSw
      (try dsimp only at hSw)
      go_simp
      all_goals (with_reducible rfl)
    try simp only [Act.put, List.setIfInBounds_toArray, List.set_cons_zero, List.set_cons_succ, List.getElem_toArray, List.getElem_cons_zero, List.getElem_cons_succ]
    refine wpAnyH_ready (rs := [12]) (by kernel_rfl) (by simp) ?_
    refine AllReadyH.cons rfl (fun K hK => ?_) AllReadyH.nil
    refine step_store_mid rfl 53 _ _ rfl q1 (i * 3) #[.int .i64 nb, .int .i64 vt.b, .string vt.v] (by simp [Act.eval, Act.put]) (by simp [Act.eval, Act.put]) hthere (by kernel_rfl) (by simp [Value.oneCell']) ?_
    refine hK.out _ _ (hS2) (fun hHeld => ?_)
    clear hK
    try simp only [Act.put, List.setIfInBounds_toArray, List.set_cons_zero, List.set_cons_succ, List.getElem_toArray, List.getElem_cons_zero, List.getElem_cons_succ]
    refine wpAnyH_take (i := 13) (v := ?_) rfl (by kernel_rfl) (by kernel_rfl) (by kernel_rfl) (fun _ _ _ h => h) (Or.inl ⟨by rfl, ?_⟩) (by assumption) ?_
    rotate_left
    · intro w' hSw
      (try dsimp only at hSw)
      go_simp
      all_goals (with_reducible rfl)
    try simp only [Act.put, List.setIfInBounds_toArray, List.set_cons_zero, List.set_cons_succ, List.getElem_toArray, List.getElem_cons_zero, List.getElem_cons_succ]
    refine wpAnyH_done (by kernel_rfl) ?_ _
    go_wp2_with fail
    go_meet
    case rel => exact ⟨rfl, NX.out⟩
  case rest =>
    obtain ⟨rfl, hcut⟩ := hcut
    clear CC HPR S1
    have S2 := Lib.hid hcut
    clear hcut
    have hmsl : w.ms.length ≤ 6 := (QM.may_len HMS.out).2.1
    have hbeg : AM.BegIs w.ms nb s 0 := AM.begIs_zero.2 (by unfold AM.okB; simp only [Bool.and_eq_true, decide_eq_true_eq]; exact ⟨HMS.out, HGD.out, HSS.out⟩)
    obtain ⟨A0, c0, d0, r0⟩ := S2.out.1.mems
    have HBG := Lib.hid (fun (W' : World) (hb : Below wc.heap.size wc W') => begin_any A0 w.ms.length c0 w.ms nb s 0 W' (r0.below hb) (by omega) (by have := HGD.out; unfold BM.good at this; omega) (by have := HGD.out; unfold BM.good at this; omega) (by have := HSS.out; unfold maxLen; omega) hbeg)
    simp only [show begAt w.ms nb s 0 = AM.start w.ms nb s by unfold begAt; rw [if_pos rfl]] at HBG
    go_upto_region 8 with (fail)
    obtain ⟨q2, c2, hq2, hq2l, d2, _, _, _⟩ := S2.out.1.storeT LT6.out HI.out
    have hgl := S2.out.1.lt.2
    have CC := Lib.hid (fun (w' : World) (hb : Below wc.heap.size wc w') => (⟨(hb.cell (p := ⟨g, 2, none⟩) hgl).trans d2, (hb.cell (p := ⟨g, 0, none⟩) hgl).trans d0⟩ : w'.cell? ⟨g, 2, none⟩ = some (.slice (some ⟨q2, 0, none⟩) w.ts.length c2) ∧ w'.cell? ⟨g, 0, none⟩ = some (.slice A0 w.ms.length c0)))
    clear hq2 hq2l hbeg r0 d0 d2 hgl hmsl
    go_cut [9] (fun u9 wx => u9 = .int .i64 0 ∧ BgS W base g ⟨w.ms, w.vs.set i ⟨nb, vt.b, vt.v⟩, w.ts.set i (AM.start w.ms nb s), w.ml, w.ch⟩ gv vt wx)
    case first =>
      have bb1 : Below wc.heap.size wc wc.drew := (Below.refl _ _).drew
      have hS0 := CC.out _ bb1
      refine wp_region_held_drew (S := fun w' => w'.cell? ⟨g, 2, none⟩ = some (.slice (some ⟨q2, 0, none⟩) w.ts.length c2) ∧ w'.cell? ⟨g, 0, none⟩ = some (.slice A0 w.ms.length c0)) (by kernel_rfl) hS0 (fun hHeld => ?_)
      refine wpAnyH_take (i := 0) (v := ?_) rfl (by kernel_rfl) (by kernel_rfl) (by kernel_rfl) (fun _ _ _ h => h) (Or.inl ⟨by rfl, ?_⟩) (by assumption) ?_
      rotate_left
      · intro w' hSw
        (try dsimp only at hSw)
        go_simp
        all_goals (with_reducible rfl)
      try simp only [Act.put, List.setIfInBounds_toArray, List.set_cons_zero, List.set_cons_succ, List.getElem_toArray, List.getElem_cons_zero, List.getElem_cons_succ]
      refine wpAnyH_take (i := 1) (v := ?_) rfl (by kernel_rfl) (by kernel_rfl) (by kernel_rfl) (fun _ _ _ h => h) (Or.inl ⟨by rfl, ?_⟩) (by assumption) ?_
      rotate_left
      · intro w' hSw
        (try dsimp only at hSw)
        go_simp
        all_goals (with_reducible rfl)
      try simp only [Act.put, List.setIfInBounds_toArray, List.set_cons_zero, List.set_cons_succ, List.getElem_toArray, List.getElem_cons_zero, List.getElem_cons_succ]
      refine wpAnyH_take (i := 2) (v := ?_) rfl (by kernel_rfl) (by kernel_rfl) (by kernel_rfl) (fun _ _ _ h => h) (Or.inl ⟨by rfl, ?_⟩) (by assumption) ?_
      rotate_left
      · intro w' hSw
        (try dsimp only at hSw)
        go_simp
        all_goals (with_reducible rfl)
      try simp only [Act.put, List.setIfInBounds_toArray, List.set_cons_zero, List.set_cons_succ, List.getElem_toArray, List.getElem_cons_zero, List.getElem_cons_succ]
      refine wpAnyH_take (i := 3) (v := ?_) rfl (by kernel_rfl) (by kernel_rfl) (by kernel_rfl) (fun _ _ _ h => h) (Or.inl ⟨by rfl, ?_⟩) (by assumption) ?_
      rotate_left
      · intro w' hSw
        (try dsimp only at hSw)
        go_simp
        all_goals (with_reducible rfl)
      try simp only [Act.put, List.setIfInBounds_toArray, List.set_cons_zero, List.set_cons_succ, List.getElem_toArray, List.getElem_cons_zero, List.getElem_cons_succ]
      refine wpAnyH_take (i := 4) (v := ?_) rfl (by kernel_rfl) (by kernel_rfl) (by kernel_rfl) (fun _ _ _ h => h) (Or.inl ⟨by rfl, ?_⟩) (by assumption) ?_
      rotate_left
      · intro w' hSw
        (try dsimp only at hSw)
        go_simp
        all_goals (with_reducible rfl)
      try simp only [Act.put, List.setIfInBounds_toArray, List.set_cons_zero, List.set_cons_succ, List.getElem_toArray, List.getElem_cons_zero, List.getElem_cons_succ]
      refine wpAnyH_take (i := 5) (v := ?_) rfl (by kernel_rfl) (by kernel_rfl) (by kernel_rfl) (fun _ _ _ h => h) (Or.inl ⟨by rfl, ?_⟩) (by assumption) ?_
      rotate_left
      · intro w' hSw
        (try dsimp only at hSw)
        go_simp
        all_goals (with_reducible rfl)
      try simp only [Act.put, List.setIfInBounds_toArray, List.set_cons_zero, List.set_cons_succ, List.getElem_toArray, List.getElem_cons_zero, List.getElem_cons_succ]
      refine wpAnyH_take (i := 6) (v := ?_) rfl (by kernel_rfl) (by kernel_rfl) (by kernel_rfl) (fun _ _ _ h => h) (Or.inl ⟨by rfl, ?_⟩) (by assumption) ?_
      rotate_left
      · intro w' hSw
        (try dsimp only at hSw)
        go_simp
        all_goals (with_reducible rfl)
      try simp only [Act.put, List.setIfInBounds_toArray, List.set_cons_zero, List.set_cons_succ, List.getElem_toArray, List.getElem_cons_zero, List.getElem_cons_succ]
      refine wpAnyH_take (i := 7) (v := ?_) rfl (by kernel_rfl) (by kernel_rfl) (by kernel_rfl) (fun _ _ _ h => h) (Or.inl ⟨by rfl, ?_⟩) (by assumption) ?_
      rotate_left
      · intro w' hSw
        (try dsimp only at hSw)
        go_simp
        all_goals (with_reducible rfl)
      try simp only [Act.put, List.setIfInBounds_toArray, List.set_cons_zero, List.set_cons_succ, List.getElem_toArray, List.getElem_cons_zero, List.getElem_cons_succ]
      refine wpAnyH_take (i := 8) (v := ?_) rfl (by kernel_rfl) (by kernel_rfl) (by kernel_rfl) (fun _ _ _ h => h) (Or.inl ⟨by rfl, ?_⟩) (by assumption) ?_
      rotate_left
      · intro w' hSw
        (try dsimp only at hSw)
        go_simp
        all_goals (with_reducible rfl)
      try simp only [Act.put, List.setIfInBounds_toArray, List.set_cons_zero, List.set_cons_succ, List.getElem_toArray, List.getElem_cons_zero, List.getElem_cons_succ]
      refine wpAnyH_take (i := 9) (v := ?_) rfl (by kernel_rfl) (by kernel_rfl) (by kernel_rfl) (fun _ _ _ h => h) (Or.inl ⟨by rfl, ?_⟩) (by assumption) ?_
      rotate_left
      · intro w' hSw
        (try dsimp only at hSw)
        go_simp
        all_goals (with_reducible rfl)
      try simp only [Act.put, List.setIfInBounds_toArray, List.set_cons_zero, List.set_cons_succ, List.getElem_toArray, List.getElem_cons_zero, List.getElem_cons_succ]
      refine wpAnyH_take (i := 10) (v := ?_) rfl (by kernel_rfl) (by kernel_rfl) (by kernel_rfl) (fun _ _ _ h => h) (Or.inl ⟨by rfl, ?_⟩) (by assumption) ?_
      rotate_left
      · intro w' hSw
        (try dsimp only at hSw)
        go_simp
        all_goals (with_reducible rfl)
      try simp only [Act.put, List.setIfInBounds_toArray, List.set_cons_zero, List.set_cons_succ, List.getElem_toArray, List.getElem_cons_zero, List.getElem_cons_succ]
      refine wpAnyH_ready (rs := [11]) (by kernel_rfl) (by simp) ?_
      refine AllReadyH.cons rfl (fun K hK => ?_) AllReadyH.nil
      go_simp
      refine (HBG.out _ bb1).mono ?_
      rintro e w4 ⟨v6, rfl, own, hb6⟩
      obtain ⟨A9, c9, D9, q9, C9, f9, rfl⟩ := start_form own
      have bb2 := bmore bb1 hb6 (Nat.le_refl _)
      have hS1 := CC.out _ bb2
      have S3 := S2.out.below bb2 HBS.out
      obtain ⟨q3, c3, hq3, hq3l, d3, hthere, hst, hfar⟩ := S3.1.storeT LT6.out HI.out
      rw [hS1.1] at d3
      injection d3 with d3
      injection d3 with d3 _ d4
      injection d3 with d3
      injection d3 with d3
      subst d3 d4
      obtain ⟨hs1, hs2, hs3, hs4⟩ := hst (AM.start w.ms nb s) _ _ _ _ _ _ _ (own.mono (Nat.le_trans HBS.out S2.out.2.2.2.size))
      have NX : Hid (BgS W base g ⟨w.ms, w.vs.set i ⟨nb, vt.b, vt.v⟩, w.ts.set i (AM.start w.ms nb s), w.ml, w.ch⟩ gv vt (putAt7 w4 q2 (i * 7) (.int .u8 1) (.int .i64 nb) (.slice A9 w.ms.length c9) (.string s) (.string ⟨#[]⟩) (.slice D9 0 q9) (.slice C9 0 f9))) :=
        Lib.hid ⟨hs1, hs2.box _ _ _ (by unfold isA; decide) S3.2.1, S3.2.2.1.trans (hs2.mono fun _ h => tk_of_a h), below_more S3.2.2.2 hs3⟩
      have hS2 := And.intro hs4 ((S3.1.kept_hd (j := 0) hs2 (by unfold isA; decide)).trans hS1.2)
      clear hst hfar hs1 hs2 hs3 hs4 hb6 bb2 own S3 hq3 hq3l
      refine hK.out _ _ (hS1) (fun hHeld => ?_)
      clear hK
      try simp only [Act.put, List.setIfInBounds_toArray, List.set_cons_zero, List.set_cons_succ, List.getElem_toArray, List.getElem_cons_zero, List.getElem_cons_succ]
      refine wpAnyH_take (i := 12) (v := ?_) rfl (by kernel_rfl) (by kernel_rfl) (by kernel_rfl) (fun _ _ _ h => h) (Or.inl ⟨by rfl, ?_⟩) (by assumption) ?_
      rotate_left
      · intro w' hSw
        (try dsimp only at hSw)
        go_simp
        all_goals (with_reducible rfl)
      try simp only [Act.put, List.setIfInBounds_toArray, List.set_cons_zero, List.set_cons_succ, List.getElem_toArray, List.getElem_cons_zero, List.getElem_cons_succ]
      refine wpAnyH_take (i := 13) (v := ?_) rfl (by kernel_rfl) (by kernel_rfl) (by kernel_rfl) (fun _ _ _ h => h) (Or.inl ⟨by rfl, ?_⟩) (by assumption) ?_
      rotate_left
      · intro w' hSw
        (try dsimp only at hSw)
        go_simp
        all_goals (with_reducible rfl)
      try simp only [Act.put, List.setIfInBounds_toArray, List.set_cons_zero, List.set_cons_succ, List.getElem_toArray, List.getElem_cons_zero, List.getElem_cons_succ]
      refine wpAnyH_take (i := 14) (v := ?_) rfl (by kernel_rfl) (by kernel_rfl) (by kernel_rfl) (fun _ _ _ h => h) (Or.inl ⟨by rfl, ?_⟩) (by assumption) ?_
      rotate_left
      · intro w' hSw
        (try dsimp only at hSw)
        go_simp
        all_goals (with_reducible rfl)
      try simp only [Act.put, List.setIfInBounds_toArray, List.set_cons_zero, List.set_cons_succ, List.getElem_toArray, List.getElem_cons_zero, List.getElem_cons_succ]
      refine wpAnyH_take (i := 15) (v := ?_) rfl (by kernel_rfl) (by kernel_rfl) (by kernel_rfl) (fun _ _ _ h => h) (Or.inl ⟨by rfl, ?_⟩) (by assumption) ?_
      rotate_left
      · intro w' hSw
        (try dsimp only at hSw)
        go_simp
        all_goals (with_reducible rfl)
      try simp only [Act.put, List.setIfInBounds_toArray, List.set_cons_zero, List.set_cons_succ, List.getElem_toArray, List.getElem_cons_zero, List.getElem_cons_succ]
      refine wpAnyH_ready (rs := [16]) (by kernel_rfl) (by simp) ?_
      refine AllReadyH.cons rfl (fun K hK => ?_) AllReadyH.nil
      refine step_store_mid rfl 49 _ _ rfl q2 (i * 7) #[.int .u8 1, .int .i64 nb, .slice A9 w.ms.length c9, .string s, .string ⟨#[]⟩, .slice D9 0 q9, .slice C9 0 f9] (by simp [Act.eval, Act.put]) (by simp [Act.eval, Act.put]) hthere (by kernel_rfl) (by simp [Value.oneCell']) ?_
      refine hK.out _ _ (hS2) (fun hHeld => ?_)
      clear hK
      try simp only [Act.put, List.setIfInBounds_toArray, List.set_cons_zero, List.set_cons_succ, List.getElem_toArray, List.getElem_cons_zero, List.getElem_cons_succ]
      refine wpAnyH_take (i := 17) (v := ?_) rfl (by kernel_rfl) (by kernel_rfl) (by kernel_rfl) (fun _ _ _ h => h) (Or.inl ⟨by rfl, ?_⟩) (by assumption) ?_
      rotate_left
      · intro w' hSw
        (try dsimp only at hSw)
        go_simp
        all_goals (with_reducible rfl)
      try simp only [Act.put, List.setIfInBounds_toArray, List.set_cons_zero, List.set_cons_succ, List.getElem_toArray, List.getElem_cons_zero, List.getElem_cons_succ]
      refine wpAnyH_done (by kernel_rfl) ?_ _
      go_wp2_with fail
      go_meet
      case rel => exact ⟨rfl, NX.out⟩
    case rest =>
      obtain ⟨rfl, hcut⟩ := hcut
      clear CC HBG S2
      have S8 := Lib.hid hcut
      clear hcut
      have hb1 : DC.begin1 w (i : Int) s = ⟨w.ms, w.vs.set i ⟨nb, vt.b, vt.v⟩, w.ts.set i (AM.start w.ms nb s), w.ml ++ DC.others w.ms (DC.mk (i : Int) 0 1 nb 0 .empty), w.ch⟩ := by
        unfold DC.begin1
        rw [← HNB.out, ← HVT.out, Int.toNat_natCast]
      have hmb := DC.may_begin1 H0.out HN.out HR.out HSS.out
      obtain ⟨ll, lc⟩ := LEN.out
      have hmsl : w.ms.length ≤ 6 := (QM.may_len HMS.out).2.1
      have hol := DC.others_len w.ms (DC.mk (i : Int) 0 1 nb 0 .empty)
      have HO : Hid (∀ u, BgS W base g ⟨w.ms, w.vs.set i ⟨nb, vt.b, vt.v⟩, w.ts.set i (AM.start w.ms nb s), w.ml, w.ch⟩ gv vt u → Calls Try.prog 43 #[.pointer (some ⟨g, 0, none⟩), .agg #[.int .i64 (i : Int), .int .i64 0, .int .u8 1, .int .i64 0, .int .i64 0, .int .i64 nb, .int .i64 0, .string ⟨#[]⟩, .int .i64 0, .int .i64 0]] u (OthPost base g ⟨w.ms, w.vs.set i ⟨nb, vt.b, vt.v⟩, w.ts.set i (AM.start w.ms nb s), w.ml, w.ch⟩ (DC.mk (i : Int) 0 1 nb 0 .empty) u)) :=
        Lib.hid fun u hu => sendAll_any base g ⟨w.ms, w.vs.set i ⟨nb, vt.b, vt.v⟩, w.ts.set i (AM.start w.ms nb s), w.ml, w.ch⟩ (DC.mk (i : Int) 0 1 nb 0 .empty) u hu.1 (Nat.le_trans HBS.out hu.2.2.2.size) (by show w.ms.length ≤ 2000; omega) (by show w.ml.length ≤ 2000; omega)
      have HTK := Lib.hid (fun (W' : World) (h : WdAt W' base g (DC.begin1 w (i : Int) s)) (hbz : base ≤ W'.heap.size) => promised_any base g i (DC.begin1 w (i : Int) s) nb ⟨(i : Int), vt.b, vt.v⟩ W' h hmb HI.out (by
        have hv := HVM.out.2
        rw [← HVT.out] at hv
        rcases hv with ⟨e1, e2⟩ | ⟨_, e2, _, e4⟩
        · exact ⟨by show _ ≤ vt.b; omega, by show vt.b ≤ _; omega, by show vt.v.size ≤ _; rw [e2]; decide⟩
        · unfold BM.good at e2
          exact ⟨by show _ ≤ vt.b; omega, by show vt.b ≤ _; omega, by show vt.v.size ≤ _; unfold maxLen; omega⟩) hbz (by rw [hb1]; show (w.ml ++ _).length ≤ 1900; rw [List.length_append]; omega) (by rw [hb1]; show w.ch.length ≤ 1900; omega))
      have HFIN : Hid (∀ wx wy, Kept isTk W wx → Below base W wx → TakPost base g (DC.begin1 w (i : Int) s) (i : Int) nb ⟨(i : Int), vt.b, vt.v⟩ wx (.returned (.tuple #[])) wy → BegPost base g w (i : Int) s W (.returned (.int .i64 0)) wy) := Lib.hid fun wx wy hk hb h => .inr ⟨HR.out, rfl, by
        have h2 := h.2.1
        unfold DC.begins
        rw [← HNB.out, ← HVT.out]
        exact h2, hk.trans h.2.2.1, below_more hb h.2.2.2⟩
      have HB1 := Lib.hid hb1
      have HM63 := Lib.hid (show w.ms.length ≤ 9223372036854775807 by omega)
      clear hb1 hmb ll lc hmsl hol
      go_wp2_with fail
      refine (HO.out _ S8.out).mono ?_
      rintro e w9 ⟨rfl, hW9, hk9, hb9⟩
      clear HO
      have W9 : Hid (WdAt w9 base g (DC.begin1 w (i : Int) s)) := Lib.hid (by rw [HB1.out]; exact hW9)
      have X9 := Lib.hid (hk9.box _ _ _ (by unfold isWM; decide) S8.out.2.1)
      have K9 := Lib.hid (S8.out.2.2.1.trans (hk9.mono fun _ h => tk_of_wm h))
      have B9 := Lib.hid (below_more S8.out.2.2.2 hb9)
      clear hW9 hk9 hb9 S8
      obtain ⟨A0, c0, g0, r0⟩ := W9.out.mems
      have hms : (DC.begin1 w (i : Int) s).ms = w.ms := rfl
      rw [hms] at g0 r0
      have HHas := Lib.hid (has_any A0 w.ms.length c0 w.ms (i : Int) w9 r0 HM63.out)
      clear hms r0
      rcases hh : QM.has w.ms (i : Int) with _ | _
      · rw [hh] at HHas
        have HF : Hid (BegPost base g w (i : Int) s W (.returned (.int .i64 0)) w9) := Lib.hid (.inr ⟨HR.out, rfl, by rw [begins_alone (by have := LT6.out; have := HI.out; omega) hh]; exact W9.out, K9.out, B9.out⟩)
        clear hh HFIN HTK
        go_wp2_with fail
        refine HHas.out.mono ?_
        rintro e w4 ⟨rfl, rfl⟩
        go_wp2_with fail
        go_ret
        exact HF.out
      rw [hh] at HHas
      clear hh
      obtain ⟨v0, v1, v2, _⟩ := X9.out.three
      go_wp2_with fail
      refine HHas.out.mono ?_
      rintro e w4 ⟨rfl, rfl⟩
      clear HHas g0
      go_wp2_with fail
      refine (HTK.out _ W9.out (Nat.le_trans HBS.out B9.out.size)).mono ?_
      rintro e wz hz
      obtain ⟨rfl, hz2⟩ := hz
      have HZ := Lib.hid (HFIN.out _ _ K9.out B9.out ⟨rfl, hz2⟩)
      clear hz2 v0 v1 v2 HTK HFIN
      go_wp2_with fail
      go_ret
      exact HZ.out
end Go.Proofs.Ytiiobafcgdelmaa.PD
