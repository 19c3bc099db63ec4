/-
  What the document's own Twin of layer 11 answers (towncrierref11.Twin): it, in new memory. Conditions: at most 2,000 of each.
-/
import Derived.Test.YtohiemdodffhoaaStOwn
import Derived.Test.YtohiemdodffhoaaStE
import Derived.Test.YtohiemdodffhoaaQq
import Derived.Shelf.RegionOpenPlain
namespace Go.Proofs.Ytohiemdodffhoaa.SP
open Go.RowKit Go.Shelf
open SM (Sn Sb Vo)
set_option linter.unusedVariables false
set_option linter.unusedSimpArgs false
set_option maxRecDepth 100000

theorem info_row : (Try.prog.info? 32).map (fun i => (i.zero, i.size, i.bytes)) = some (some (.slice none 0 0), 1, 24) := by kernel_rfl
theorem info_str : (Try.prog.info? 9).map (fun i => (i.zero, i.size, i.bytes)) = some (some (.string ⟨#[]⟩), 1, 16) := by kernel_rfl
/-- how much of it there is -/
def Many (x : Sb) : Prop := x.logs.length ≤ 2000 ∧ (∀ l ∈ x.logs, l.length ≤ 2000) ∧ x.votes.length ≤ 2000
def isRow (e : TypeId) : Prop := e = 32
def isSt (e : TypeId) : Prop := e = 25
/-- the word of Twin's loop -/
structure TwR (W : World) (go : Nat) (x : Sb) (X : Array Value) (vL vV : Value) (rows : List Value) (k : Nat) (wr : World) : Prop where
  bl : Below W.heap.size W wr
  hg : W.heap.size + 1 < go
  bx : Box wr W.heap.size 25 X
  bz : Box wr (W.heap.size + 1) 25 #[.slice none 0 0, .slice none 0 0]
  bo : Box wr go 25 #[vL, vV]
  oL : wr.ownsRow W.heap.size 32 1 vL k rows
  rw_ : RwOwn wr W.heap.size rows (x.logs.take k)
  ap : Apart rows
  oV : wr.ownsRow W.heap.size 75 5 vV x.votes.length (flat sncell x.votes)
section
variable {W wr wr' : World} {go : Nat} {x : Sb} {X : Array Value} {vL vV : Value} {rows : List Value} {k : Nat}
theorem TwR.below (h : TwR W go x X vL vV rows k wr) (hb : Below wr.heap.size wr wr') : TwR W go x X vL vV rows k wr' :=
  ⟨bmore h.bl hb (Nat.le_refl _), h.hg, h.bx.below hb h.bx.lt, h.bz.below hb h.bz.lt, h.bo.below hb h.bo.lt, own_below3 h.oL hb, h.rw_.below hb, h.ap, own_below3 h.oV hb⟩
theorem TwR.mid {w9 : World} (h : TwR W go x X vL vV rows k wr) (g9 : wr.grownBy w9 vL.ownBlock) : Below W.heap.size W w9 ∧ Box w9 W.heap.size 25 X ∧ Box w9 go 25 #[vL, vV] := by
  have kk : Kept isRow wr w9 := Kept.grown h.oL rfl g9
  exact ⟨below_row h.bl h.oL h.bl.size g9, kk.box _ _ _ (by unfold isRow; decide) h.bx, kk.box _ _ _ (by unfold isRow; decide) h.bo⟩
theorem TwR.next {w9 : World} {v9 u : Value} {l : List ByteArray} (h : TwR W go x X vL vV rows k wr) (o9 : w9.ownsRow W.heap.size 32 1 v9 (k + 1) (rows ++ [u])) (g9 : wr.grownBy w9 vL.ownBlock)
    (hu : wr.ownsRow W.heap.size 9 1 u l.length (tc l)) (hl : x.logs[k]? = some l) (hap : ∀ (i b : Nat) y, rows[i]? = some y → y.ownBlock = some b → u.ownBlock ≠ some b) : TwR W go x X v9 vV (rows ++ [u]) (k + 1) (w9.setCell ⟨go, 0, none⟩ v9) := by
  have kk : Kept isRow wr w9 := Kept.grown h.oL rfl g9
  have bo9 := kk.box _ _ _ (by unfold isRow; decide) h.bo
  have ks : Kept isSt w9 (w9.setCell ⟨go, 0, none⟩ v9) := Kept.set (S := isSt) bo9 rfl v9
  have hg := h.hg
  refine ⟨(below_row h.bl h.oL h.bl.size g9).setCell (by show W.heap.size ≤ go; omega) v9, h.hg, (kk.box _ _ _ (by unfold isRow; decide) h.bx).far (p := ⟨go, 0, none⟩) (by show _ ≠ go; omega) v9,
    (kk.box _ _ _ (by unfold isRow; decide) h.bz).far (p := ⟨go, 0, none⟩) (by show _ ≠ go; omega) v9, by simpa using bo9.stored 0 v9, ks.own o9 (by unfold isSt; decide),
    ((h.rw_.snoc hl hu).kept kk (by unfold isRow; decide)).kept ks (by unfold isSt; decide), h.ap.snoc hap, ks.own (kk.own h.oV (by unfold isRow; decide)) (by unfold isSt; decide)⟩
end
theorem tw_new {W u : World} {A B : Option Addr} {c d : Nat} {x : Sb} {vV : Value} (hb : Below ((W.alloc (.cells #[.slice A x.logs.length c, .slice B x.votes.length d] 25)).alloc (.cells #[.slice none 0 0, .slice none 0 0] 25)).heap.size ((W.alloc (.cells #[.slice A x.logs.length c, .slice B x.votes.length d] 25)).alloc (.cells #[.slice none 0 0, .slice none 0 0] 25)) u)
    (ho : u.ownsRow (W.heap.size + 1 + 1) 75 5 vV x.votes.length (flat sncell x.votes)) :
    TwR W u.heap.size x #[.slice A x.logs.length c, .slice B x.votes.length d] (.slice none 0 0) vV [] 0 (u.alloc (.cells #[.slice none 0 0, vV] 25)) := by
  have b1 : Below W.heap.size W ((W.alloc (.cells #[.slice A x.logs.length c, .slice B x.votes.length d] 25)).alloc (.cells #[.slice none 0 0, .slice none 0 0] 25)) := ((Below.refl _ _).alloc (Nat.le_refl _) _).alloc (by simp) _
  have hsz : W.heap.size + 1 + 1 ≤ u.heap.size := by have := hb.size; simpa using this
  have b2 : Below W.heap.size W u := b1.trans (hb.mono (by simp; omega))
  have ba : Below u.heap.size u (u.alloc (.cells #[.slice none 0 0, vV] 25)) := (Below.refl _ _).alloc (Nat.le_refl _) _
  exact ⟨bmore b2 ba (Nat.le_refl _), by omega, (((Box.new W _ _).alloc _).below hb (by simp <;> omega)).alloc _, ((Box.new_at (W.heap.size + 1) (by simp)).below hb (by simp <;> omega)).alloc _, Box.new _ _ _, World.ownsRow_nil _ _ _ _, RwOwn.nil _ _, Apart.nil, own_base (own_below3 ho ba) (by omega)⟩

set_option maxHeartbeats 8000000 in
theorem rtwin_any (v : Value) (x : Sb) (W : World) (H : StIs W v x) (F : Many x) :
    Calls Try.prog 20 #[v] W fun e w' => ∃ v', e = .returned v' ∧ StOwn w' W.heap.size v' x ∧ Below W.heap.size W w' := by
  obtain ⟨A, c, B, d, rfl, hL, hV⟩ := H
  obtain ⟨f1, f2, f3⟩ := F
  obtain ⟨i0, hi, hz0, hz1, hz2⟩ := info_parts info_seen
  obtain ⟨i1, hj, hy0, hy1, hy2⟩ := info_parts info_row
  obtain ⟨i2, hl, hx0, hx1, hx2⟩ := info_parts info_str
  have mixed : Try.prog.follows Departure.mixedOrders = true := by kernel_rfl
  obtain ⟨_, m1, m2⟩ := rows_rd2 hL
  unfold maxLen at m2
  have HL := Lib.hid hL
  have HV := Lib.hid hV
  have HF2 := Lib.hid f2
  clear hL hV f2
  go_enter Try.func20, Try.ntmps20
  go_upto_region 2 with (at_builtin; refine wpList_append_g _ rfl _ _ 23 rfl (W.heap.size + 1 + 1) 75 i0 _ 5 48 Try.underlying23 hi hz0 hz1 hz2 rfl (by omega) (.slice none 0 0) 0 [] rfl (World.ownsRow_nil _ _ _ _) B x.votes.length d (flat sncell x.votes) rfl (HV.out.1.below (((Below.refl _ _).alloc (Nat.le_refl _) _).alloc (by simp) _)) (one_flat sn_one _) (by unfold maxLen; omega) (by omega) (by simp) ?_; intro vV u hown hgr hob; rw [Nat.zero_add, List.nil_append] at hown; obtain ⟨B2, d2, rfl, _, _⟩ := own_form hown)
  have HT := Lib.hid (tw_new (below_of_grown hgr (by intro g h; cases h)) hown)
  clear hgr hown hob
  generalize u.alloc (.cells #[.slice none 0 0, .slice B2 x.votes.length d2] 25) = w2 at HT ⊢
  generalize u.heap.size = go at HT ⊢
  obtain ⟨x0, x1, _⟩ := HT.out.bx.two
  go_wp2_with fail
  clear x0 x1
  go_loopw [4] (fun i wr => ∃ k : Nat, k ≤ x.logs.length ∧ i = .int .i64 k ∧ ∃ T2 e2 rows, Hid (TwR W go x #[.slice A x.logs.length c, .slice B x.votes.length d] (.slice T2 k e2) (.slice B2 x.votes.length d2) rows k wr)) (fun i _ => x.logs.length - (intOf i).toNat)
  case atStart => exact ⟨0, by omega, rfl, none, 0, [], HT⟩
  case round =>
    clear HT
    obtain ⟨k, hk, rfl, T2, e2, rows, HT⟩ := hrel
    obtain ⟨x0, x1, _⟩ := HT.out.bx.two
    by_cases hlt : k < x.logs.length
    · obtain ⟨l, hll⟩ : ∃ l, x.logs[k]? = some l := ⟨_, List.getElem?_eq_getElem hlt⟩
      have hl2 := HF2.out l (List.mem_of_getElem? hll)
      obtain ⟨ad, C, e, rfl, _, q1, q2, _, _⟩ := logs_get HL.out hll
      have hbl := cell_block q1
      rw [block_of_add] at hbl
      have HQ := Lib.hid q2
      have HLL := Lib.hid hll
      have HSS : Hid (∀ w', Below W.heap.size W w' → Box w' W.heap.size 25 #[.slice (some ad) x.logs.length c, .slice B x.votes.length d] → w'.cell? ⟨W.heap.size, 0, none⟩ = some (.slice (some ad) x.logs.length c) ∧ w'.cell? (ad.add k) = some (.slice C l.length e)) := Lib.hid (fun w' hb hx =>
        ⟨hx.cell 0, (hb.cell (by rw [block_of_add]; exact hbl)).trans q1⟩)
      have i0' : (0 : Int) ≤ (k : Int) := by omega
      have i1' : (k : Int) < (x.logs.length : Int) := by omega
-- LOOP
      clear q1 q2 hbl hll
      go_upto_region 5 with (fail)
      clear x0 x1
      obtain ⟨u, hu⟩ : ∃ u, u = wr.drew := ⟨_, rfl⟩
      have HT := Lib.hid (show TwR W go x #[.slice (some ad) x.logs.length c, .slice B x.votes.length d] (.slice T2 k e2) (.slice B2 x.votes.length d2) rows k u by rw [hu]; exact HT.out.below ((Below.refl _ _).drew))
      refine wp_region_held_drew (S := fun w' => w'.cell? ⟨W.heap.size, 0, none⟩ = some (.slice (some ad) x.logs.length c) ∧ w'.cell? (ad.add k) = some (.slice C l.length e)) (by kernel_rfl) (by rw [← hu]; exact HSS.out _ HT.out.bl HT.out.bx) (fun hHeld => ?_)
      rw [← hu] at hHeld ⊢
      clear hu
      refine qT 0 ?_; try simp only [Act.put, qq]
      refine qT 2 ?_; try simp only [Act.put, qq]
      refine qT 3 ?_; try simp only [Act.put, qq]
      refine qT 4 ?_; try simp only [Act.put, qq]
      refine qT 5 ?_; try simp only [Act.put, qq]
      refine qT 6 ?_; try simp only [Act.put, qq]
      refine wpAnyH_ready (rs := [1, 7]) (by kernel_rfl) (by simp) ?_
      refine AllReadyH.cons rfl (fun K hK => ?_) (AllReadyH.cons rfl (fun K hK => ?_) AllReadyH.nil)
      · skip
        obtain ⟨y0, _, _, _⟩ := HT.out.bo.two
        go_simp
        refine hK.out _ _ (HSS.out _ HT.out.bl HT.out.bx) (fun hHeld => ?_)
        clear hK y0
        try simp only [Act.put, qq]
        refine wpAnyH_ready (rs := [7]) (by kernel_rfl) (by simp) ?_
        refine AllReadyH.cons rfl (fun K hK => ?_) AllReadyH.nil
        · skip
          refine step_append_h rfl (.const (.slice none 0 0)) (.tmp 22) 32 rfl u.heap.size 9 i2 _ 1 16 Try.underlying32 hl hx0 hx1 hx2 rfl (by omega) (.slice none 0 0) 0 [] (by simp [Act.eval, Act.put]) (World.ownsRow_nil _ _ _ _) C l.length e (tc l) (by simp [Act.eval, Act.put]) (HQ.out.below HT.out.bl).g (tc_one _) (by unfold maxLen; omega) (by omega) (Nat.le_refl _) ?_
          intro va ub1 oa ga hob
          simp only [Nat.zero_add, List.nil_append] at oa
          have hb : Below u.heap.size u ub1 := below_of_grown ga (by intro g h; cases h)
          have AP := Lib.hid (show ∀ (i b : Nat) y, rows[i]? = some y → y.ownBlock = some b → va.ownBlock ≠ some b from fun i b y hi hy hz => by have h1 := HT.out.rw_.lt hi hy; have h2 := (own_block oa hz).1; omega)
          have OA := Lib.hid (own_base oa HT.out.bl.size)
          have HT := Lib.hid (HT.out.below hb)
          obtain ⟨C2, e3, rfl, _, _⟩ := own_form oa
          clear oa ga hob hb
          refine hK.out _ _ (HSS.out _ HT.out.bl HT.out.bx) (fun hHeld => ?_)
          clear hK
          try simp only [Act.put, qq]
          refine wpAnyH_ready (rs := [8]) (by kernel_rfl) (by simp) ?_
          refine AllReadyH.cons rfl (fun K hK => ?_) AllReadyH.nil
          · skip
            go_simp
            have hb : Below ub1.heap.size ub1 (ub1.alloc (.cells #[.slice C2 l.length e3] 32)) := (Below.refl _ _).alloc (Nat.le_refl _) _
            have OA := Lib.hid (own_below3 OA.out hb)
            have HT := Lib.hid (HT.out.below hb)
            have HR2 := Lib.hid (rdG_box (s := 1) (n := 1) (xs := [.slice C2 l.length e3]) (Box.new ub1 32 #[.slice C2 l.length e3]) rfl rfl)
            clear hb
            refine hK.out _ _ (HSS.out _ HT.out.bl HT.out.bx) (fun hHeld => ?_)
            clear hK
            try simp only [Act.put, qq]
            generalize ub1.alloc (.cells #[.slice C2 l.length e3] 32) = uc2 at OA HT HR2 hHeld ⊢
            generalize ub1.heap.size = ga at HR2 ⊢
            refine wpAnyH_ready (rs := [9]) (by kernel_rfl) (by simp) ?_
            refine AllReadyH.cons rfl (fun K hK => ?_) AllReadyH.nil
            refine step_append_h rfl (.tmp 17) (.tmp 24) 22 rfl W.heap.size 32 i1 _ 1 24 Try.underlying22 hj hy0 hy1 hy2 rfl (by omega) (.slice T2 k e2) k rows (by simp [Act.eval, Act.put]) HT.out.oL (some ⟨ga, 0, none⟩) 1 1 _ (by simp [Act.eval, Act.put]) HR2.out (by intro x hx; simp at hx; subst hx; rfl) (by unfold maxLen; omega) (by omega) HT.out.bl.size ?_
            intro v9 w9 o9 g9 hob
            obtain ⟨A9, c9, rfl, _, _⟩ := own_form o9
            have NX := Lib.hid (HT.out.next o9 g9 OA.out HLL.out AP.out)
            obtain ⟨m1, m2, m3⟩ := HT.out.mid g9
            obtain ⟨_, _, z0, _⟩ := m3.two
            refine hK.out _ _ (HSS.out _ m1 m2) (fun hHeld => ?_)
            clear hK m1 m2 m3 o9 g9 hob OA HT HR2
            try simp only [Act.put, qq]
            refine qT 10 ?_; try simp only [Act.put, qq]
            refine wpAnyH_ready (rs := [11]) (by kernel_rfl) (by simp) ?_
            refine AllReadyH.cons rfl (fun K hK => ?_) AllReadyH.nil
            go_simp
            refine hK.out _ _ (HSS.out _ NX.out.bl NX.out.bx) (fun hHeld => ?_)
            clear hK z0
            try simp only [Act.put, qq]
            refine wpAnyH_done (by kernel_rfl) ?_ _
            clear hHeld HSS
            go_wp2_with fail
            go_roundw
            case rel => exact ⟨k + 1, by omega, by go_num, A9, c9, _, NX⟩
            case measure => simp [intOf]; omega
      · skip
        refine step_append_h rfl (.const (.slice none 0 0)) (.tmp 22) 32 rfl u.heap.size 9 i2 _ 1 16 Try.underlying32 hl hx0 hx1 hx2 rfl (by omega) (.slice none 0 0) 0 [] (by simp [Act.eval, Act.put]) (World.ownsRow_nil _ _ _ _) C l.length e (tc l) (by simp [Act.eval, Act.put]) (HQ.out.below HT.out.bl).g (tc_one _) (by unfold maxLen; omega) (by omega) (Nat.le_refl _) ?_
        intro va ub3 oa ga hob
        simp only [Nat.zero_add, List.nil_append] at oa
        have hb : Below u.heap.size u ub3 := below_of_grown ga (by intro g h; cases h)
        have AP := Lib.hid (show ∀ (i b : Nat) y, rows[i]? = some y → y.ownBlock = some b → va.ownBlock ≠ some b from fun i b y hi hy hz => by have h1 := HT.out.rw_.lt hi hy; have h2 := (own_block oa hz).1; omega)
        have OA := Lib.hid (own_base oa HT.out.bl.size)
        have HT := Lib.hid (HT.out.below hb)
        obtain ⟨C2, e3, rfl, _, _⟩ := own_form oa
        clear oa ga hob hb
        refine hK.out _ _ (HSS.out _ HT.out.bl HT.out.bx) (fun hHeld => ?_)
        clear hK
        try simp only [Act.put, qq]
        refine wpAnyH_ready (rs := [1, 8]) (by kernel_rfl) (by simp) ?_
        refine AllReadyH.cons rfl (fun K hK => ?_) (AllReadyH.cons rfl (fun K hK => ?_) AllReadyH.nil)
        · skip
          obtain ⟨y0, _, _, _⟩ := HT.out.bo.two
          go_simp
          refine hK.out _ _ (HSS.out _ HT.out.bl HT.out.bx) (fun hHeld => ?_)
          clear hK y0
          try simp only [Act.put, qq]
          refine wpAnyH_ready (rs := [8]) (by kernel_rfl) (by simp) ?_
          refine AllReadyH.cons rfl (fun K hK => ?_) AllReadyH.nil
          · skip
            go_simp
            have hb : Below ub3.heap.size ub3 (ub3.alloc (.cells #[.slice C2 l.length e3] 32)) := (Below.refl _ _).alloc (Nat.le_refl _) _
            have OA := Lib.hid (own_below3 OA.out hb)
            have HT := Lib.hid (HT.out.below hb)
            have HR2 := Lib.hid (rdG_box (s := 1) (n := 1) (xs := [.slice C2 l.length e3]) (Box.new ub3 32 #[.slice C2 l.length e3]) rfl rfl)
            clear hb
            refine hK.out _ _ (HSS.out _ HT.out.bl HT.out.bx) (fun hHeld => ?_)
            clear hK
            try simp only [Act.put, qq]
            generalize ub3.alloc (.cells #[.slice C2 l.length e3] 32) = uc4 at OA HT HR2 hHeld ⊢
            generalize ub3.heap.size = ga at HR2 ⊢
            refine wpAnyH_ready (rs := [9]) (by kernel_rfl) (by simp) ?_
            refine AllReadyH.cons rfl (fun K hK => ?_) AllReadyH.nil
            refine step_append_h rfl (.tmp 17) (.tmp 24) 22 rfl W.heap.size 32 i1 _ 1 24 Try.underlying22 hj hy0 hy1 hy2 rfl (by omega) (.slice T2 k e2) k rows (by simp [Act.eval, Act.put]) HT.out.oL (some ⟨ga, 0, none⟩) 1 1 _ (by simp [Act.eval, Act.put]) HR2.out (by intro x hx; simp at hx; subst hx; rfl) (by unfold maxLen; omega) (by omega) HT.out.bl.size ?_
            intro v9 w9 o9 g9 hob
            obtain ⟨A9, c9, rfl, _, _⟩ := own_form o9
            have NX := Lib.hid (HT.out.next o9 g9 OA.out HLL.out AP.out)
            obtain ⟨m1, m2, m3⟩ := HT.out.mid g9
            obtain ⟨_, _, z0, _⟩ := m3.two
            refine hK.out _ _ (HSS.out _ m1 m2) (fun hHeld => ?_)
            clear hK m1 m2 m3 o9 g9 hob OA HT HR2
            try simp only [Act.put, qq]
            refine qT 10 ?_; try simp only [Act.put, qq]
            refine wpAnyH_ready (rs := [11]) (by kernel_rfl) (by simp) ?_
            refine AllReadyH.cons rfl (fun K hK => ?_) AllReadyH.nil
            go_simp
            refine hK.out _ _ (HSS.out _ NX.out.bl NX.out.bx) (fun hHeld => ?_)
            clear hK z0
            try simp only [Act.put, qq]
            refine wpAnyH_done (by kernel_rfl) ?_ _
            clear hHeld HSS
            go_wp2_with fail
            go_roundw
            case rel => exact ⟨k + 1, by omega, by go_num, A9, c9, _, NX⟩
            case measure => simp [intOf]; omega
        · skip
          go_simp
          have hb : Below ub3.heap.size ub3 (ub3.alloc (.cells #[.slice C2 l.length e3] 32)) := (Below.refl _ _).alloc (Nat.le_refl _) _
          have OA := Lib.hid (own_below3 OA.out hb)
          have HT := Lib.hid (HT.out.below hb)
          have HR2 := Lib.hid (rdG_box (s := 1) (n := 1) (xs := [.slice C2 l.length e3]) (Box.new ub3 32 #[.slice C2 l.length e3]) rfl rfl)
          clear hb
          refine hK.out _ _ (HSS.out _ HT.out.bl HT.out.bx) (fun hHeld => ?_)
          clear hK
          try simp only [Act.put, qq]
          generalize ub3.alloc (.cells #[.slice C2 l.length e3] 32) = uc5 at OA HT HR2 hHeld ⊢
          generalize ub3.heap.size = ga at HR2 ⊢
          refine wpAnyH_ready (rs := [1]) (by kernel_rfl) (by simp) ?_
          refine AllReadyH.cons rfl (fun K hK => ?_) AllReadyH.nil
          · skip
            obtain ⟨y0, _, _, _⟩ := HT.out.bo.two
            go_simp
            refine hK.out _ _ (HSS.out _ HT.out.bl HT.out.bx) (fun hHeld => ?_)
            clear hK y0
            try simp only [Act.put, qq]
            refine wpAnyH_ready (rs := [9]) (by kernel_rfl) (by simp) ?_
            refine AllReadyH.cons rfl (fun K hK => ?_) AllReadyH.nil
            refine step_append_h rfl (.tmp 17) (.tmp 24) 22 rfl W.heap.size 32 i1 _ 1 24 Try.underlying22 hj hy0 hy1 hy2 rfl (by omega) (.slice T2 k e2) k rows (by simp [Act.eval, Act.put]) HT.out.oL (some ⟨ga, 0, none⟩) 1 1 _ (by simp [Act.eval, Act.put]) HR2.out (by intro x hx; simp at hx; subst hx; rfl) (by unfold maxLen; omega) (by omega) HT.out.bl.size ?_
            intro v9 w9 o9 g9 hob
            obtain ⟨A9, c9, rfl, _, _⟩ := own_form o9
            have NX := Lib.hid (HT.out.next o9 g9 OA.out HLL.out AP.out)
            obtain ⟨m1, m2, m3⟩ := HT.out.mid g9
            obtain ⟨_, _, z0, _⟩ := m3.two
            refine hK.out _ _ (HSS.out _ m1 m2) (fun hHeld => ?_)
            clear hK m1 m2 m3 o9 g9 hob OA HT HR2
            try simp only [Act.put, qq]
            refine qT 10 ?_; try simp only [Act.put, qq]
            refine wpAnyH_ready (rs := [11]) (by kernel_rfl) (by simp) ?_
            refine AllReadyH.cons rfl (fun K hK => ?_) AllReadyH.nil
            go_simp
            refine hK.out _ _ (HSS.out _ NX.out.bl NX.out.bx) (fun hHeld => ?_)
            clear hK z0
            try simp only [Act.put, qq]
            refine wpAnyH_done (by kernel_rfl) ?_ _
            clear hHeld HSS
            go_wp2_with fail
            go_roundw
            case rel => exact ⟨k + 1, by omega, by go_num, A9, c9, _, NX⟩
            case measure => simp [intOf]; omega
    · obtain rfl : x.logs.length = k := by omega
      obtain ⟨y0, y1, _, _⟩ := HT.out.bo.two
      obtain ⟨_, _, z0, z1⟩ := HT.out.bz.two
      have hT := HT.out
      have hrw := hT.rw_
      rw [List.take_length] at hrw
      have k1 : Kept isSt wr (wr.setCell ⟨W.heap.size + 1, 0, none⟩ (.slice T2 x.logs.length e2)) := Kept.set (S := isSt) hT.bz rfl _
      have b1 := hT.bz.stored 0 (.slice T2 x.logs.length e2)
      have k2 : Kept isSt wr ((wr.setCell ⟨W.heap.size + 1, 0, none⟩ (.slice T2 x.logs.length e2)).setCell ⟨W.heap.size + 1, 1, none⟩ (.slice B2 x.votes.length d2)) := k1.trans (Kept.set (S := isSt) b1 rfl _)
      have HO := Lib.hid (show StOwn _ W.heap.size (.agg #[.slice T2 x.logs.length e2, .slice B2 x.votes.length d2]) x from ⟨_, _, rows, rfl, k2.own hT.oL (by unfold isSt; decide), hrw.kept k2 (by unfold isSt; decide), hT.ap, k2.own hT.oV (by unfold isSt; decide)⟩)
      have HBB := Lib.hid ((hT.bl.setCell (p := ⟨W.heap.size + 1, 0, none⟩) (Nat.le_succ _) (.slice T2 x.logs.length e2)).setCell (p := ⟨W.heap.size + 1, 1, none⟩) (Nat.le_succ _) (.slice B2 x.votes.length d2))
      have X2 := Lib.hid (b1.stored 1 (.slice B2 x.votes.length d2))
      clear hT hrw k1 b1 k2 HT
      go_wp2_with fail
      have s0 := X2.out.cell 0
      have s1 := X2.out.cell 1
      simp at s0 s1
      exact bodyPost_ret (v := .agg #[.slice T2 x.logs.length e2, .slice B2 x.votes.length d2]) (by simp [results, Try.results20, go_sem, s0, s1]) rfl ⟨_, rfl, HO.out, HBB.out⟩
end Go.Proofs.Ytohiemdodffhoaa.SP
