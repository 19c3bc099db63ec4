/-
  The document's own with and without (towncrierref15): what waits with one more, and but for one. Conditions: slices that read as such, of at most 4,096.
-/
import Derived.Test.YtnpgjcapekopnaaGreatSkF
import Derived.Test.YtnpgjcapekopnaaGreatSkAp
namespace Go.Proofs.YtnpgjcapekopnaaGreat.KP
open Go.RowKit CP TP
open CM (Mg Cm)
open TM (Sp)
open KM (Wt Sk)
set_option linter.unusedVariables false
set_option linter.unusedSimpArgs false
set_option maxRecDepth 100000

/-- an answer that is what waits, in a row of one's own -/
def WtsNew (b : Nat) (l : List Wt) (w : World) (e : Ending) (w' : World) : Prop := ∃ A n c, e = .returned (.slice A n c) ∧ KO KW w' b 52 (.slice A n c) l ∧ Below w.heap.size w w'
/-- the row as it grows, in blocks behind m -/
def Grow (m b : Nat) (A : Option Addr) (n c : Nat) (l : List Wt) (W : World) : Prop := KO KW W b 52 (.slice A n c) l ∧ ∀ g, (Value.slice A n c).ownBlock = some g → m ≤ g
theorem grow_nil (m b : Nat) (W : World) : Grow m b none 0 0 [] W := ⟨kO_nil KW W b _, fun g h => by cases h⟩
theorem Grow.below {m b : Nat} {A : Option Addr} {n c : Nat} {l : List Wt} {W W' : World} (h : Grow m b A n c l W) (hb : Below W.heap.size W W') : Grow m b A n c l W' := ⟨h.1.below hb, h.2⟩
theorem Grow.len {m b : Nat} {A : Option Addr} {n c : Nat} {l : List Wt} {W : World} (h : Grow m b A n c l W) : n = l.length := h.1.slice.1
/-- one step: what was there stays -/
theorem grow_step {m b : Nat} {A A' : Option Addr} {n c c' : Nat} {l L : List Wt} {W W' : World} {ob : Obj} (h : Grow m b A n c l W) (hm : m ≤ W.heap.size) (hb : b ≤ m) (hk : KO KW W' b 52 (.slice A' (n + 1) c') L) (hg : (W.alloc ob).grownBy W' (Value.slice A n c).ownBlock)
    (hob : (Value.slice A' (n + 1) c').ownBlock = (Value.slice A n c).ownBlock ∨ (Value.slice A' (n + 1) c').ownBlock = some (W.alloc ob).heap.size) : Grow m b A' (n + 1) c' L W' ∧ Below m W W' := by
  have hb0 : Below W.heap.size W (W.alloc ob) := (Below.refl _ _).alloc (Nat.le_refl _) _
  refine ⟨⟨hk, fun g e => ?_⟩, Below.grown (hb0.mono hm) hg (Nat.le_trans hm hb0.size) fun g e => h.2 g e⟩
  rcases hob with k | k
  · exact h.2 g (by rw [← k]; exact e)
  · rw [k] at e; injection e with e; have := hb0.size; omega
set_option maxHeartbeats 16000000 in
theorem rwith_any (b : Nat) (A : Option Addr) (n c : Nat) (l : List Wt) (P : Option Addr) (q : Nat) (x : Wt) (w : World) (h : KG KW w b A n c l) (hx : RowGe w b P q x.m.gs) (hn : n ≤ 4000) (hb : b ≤ w.heap.size) :
    Calls Tryz.prog 58 #[.slice A n c, vwt P q x] w (WtsNew b (KM.ins l x) w) := by
  obtain ⟨j0, hj, hy0, hy1, hy2⟩ := info_parts info_wt
  have HLA := Lib.hid h.r.len
  have hn63 := h.r.small
  have H0 := Lib.hid h
  have HXR := Lib.hid (And.intro hx (fun ad (e : P = some ad) hn => row_lt hx.1 e hn))
  have HINS := Lib.hid (show KM.ins l x = l.filter (fun y => decide (y.m.id < x.m.id)) ++ [x] ++ l.filter (fun y => decide (x.m.id < y.m.id)) from rfl)
  generalize KM.ins l x = res at HINS ⊢
  obtain ⟨⟨xi, xg, xt, xk, xb⟩, xm, xf⟩ := x
  unfold vwt
  simp only at HXR HINS ⊢
  have HB := Lib.hid (show Below w.heap.size w (w.alloc (.cells #[.int .i64 xi, .slice P xg.length q, .int .i64 xt, .string xk, .string xb, .int .i64 xm, .bool xf] 52)) from (Below.refl _ _).alloc (Nat.le_refl _) _)
  have X := Lib.hid (Box.new w 52 #[.int .i64 xi, .slice P xg.length q, .int .i64 xt, .string xk, .string xb, .int .i64 xm, .bool xf])
  clear h hx
  go_enter Tryz.func58, Tryz.ntmps58
  go_upto_region 1 with (fail)
  generalize w.alloc (.cells #[.int .i64 xi, .slice P xg.length q, .int .i64 xt, .string xk, .string xb, .int .i64 xm, .bool xf] 52) = w1 at HB X ⊢
  have hbw1 : b ≤ w1.heap.size := Nat.le_trans hb HB.out.size
  have hww1 : w.heap.size ≤ w1.heap.size := HB.out.size
  obtain ⟨g, hg⟩ : ∃ g, w.heap.size = g := ⟨_, rfl⟩
  rw [hg] at X
  simp only [hg]
  have HGG := Lib.hid hg
  clear hg
  go_wp2_with fail
  go_loopw [5, 6] (fun s i wr => ∃ k : Nat, ∃ A9 n9 c9, k ≤ n ∧ s = .slice A9 n9 c9 ∧ i = .int .i64 k ∧ Below w1.heap.size w1 wr ∧ Hid (Grow w1.heap.size b A9 n9 c9 ((l.take k).filter (fun y => decide (y.m.id < xi))) wr)) (fun _ i _ => n - (intOf i).toNat)
  case atStart => exact ⟨0, none, 0, 0, by omega, rfl, rfl, Below.refl _ _, Lib.hid (by simpa using grow_nil w1.heap.size b w1)⟩
  case round =>
    obtain ⟨k, A9, n9, c9, hk, rfl, rfl, hB, HG⟩ := hrel
    have HB2 := Lib.hid (bmore HB.out hB (Nat.le_refl _))
    have HBr := Lib.hid hB
    obtain ⟨z0, z1, z2, z3, z4, z5, z6⟩ := box_wt (X.out.below HBr.out X.out.lt)
    clear hB
    have hn9 : n9 ≤ 4096 := by
      have h1 := HG.out.len
      have h2 := List.length_filter_le (p := fun y : Wt => decide (y.m.id < xi)) (l.take k)
      rw [List.length_take] at h2
      omega
    by_cases hlt : k < n
    · obtain ⟨a, ha⟩ : ∃ a, l[k]? = some a := ⟨_, List.getElem?_eq_getElem (by have := HLA.out; omega)⟩
      have HA := Lib.hid ha
      obtain ⟨bl, o, P, q, rfl, _, hbl, hat, hrow⟩ := wtsG_at H0.out ha
      have HRW := Lib.hid (And.intro hrow (fun ad (e : P = some ad) hn => row_lt hrow.1 e hn))
      have HAT := Lib.hid (fun W (hb : Below wr.heap.size wr W) => hat.below hbl (bmore HB2.out hb (Nat.le_refl _)))
      obtain ⟨a0, a1, a2, a3, a4, a5, a6⟩ := HAT.out _ (Below.refl _ _)
      clear ha hat hrow hbl
      have hk0 : (0 : Int) ≤ (k : Int) := by omega
      have hkn : (k : Int) < (n : Int) := by omega
      have HP1 := Lib.hid (filter_take (p := fun y : Wt => decide (y.m.id < xi)) HA.out)
      by_cases hc : (a.m.id < xi)
      · have HP := Lib.hid (show (l.take (k + 1)).filter (fun y => decide (y.m.id < xi)) = (l.take k).filter (fun y => decide (y.m.id < xi)) ++ [a] by rw [HP1.out, if_pos (decide_eq_true hc)])
        obtain ⟨⟨ai, ag, at_, ak, ab⟩, am, af⟩ := a
        simp only at a0 a1 a2 a3 a4 a5 a6 hc HRW HAT
        go_wp2_with fail
        go_region
        have hdr : Below wr.heap.size wr wr.drew := (Below.refl _ _).drew
        have HK0 := Lib.hid (HG.out.below hdr)
        have HRW3 := Lib.hid (HRW.out.1.below (bmore HB2.out hdr (Nat.le_refl _)))
        have HNE3 := Lib.hid (show ∀ ad, P = some ad → 0 < ag.length → (Value.slice A9 n9 c9).ownBlock ≠ some ad.block from fun ad e hn kk => by have h1 := HG.out.2 _ kk; have h2 := HRW.out.2 ad e hn; omega)
        have HBS3 := Lib.hid (show b ≤ wr.drew.heap.size from Nat.le_trans hbw1 HBr.out.size)
        have hat2 := HAT.out _ hdr
        clear a0 a1 a2 a3 a4 a5 a6 z0 z1 z2 z3 z4 z5 z6
        generalize wr.drew = wd at hdr HK0 HRW3 HBS3 hat2 ⊢
        obtain ⟨a0, a1, a2, a3, a4, a5, a6⟩ := hat2
        simp only at a0 a1 a2 a3 a4 a5 a6
        go_wp2_with (at_builtin; refine wpList_append_ko rfl _ _ 22 rfl 52 j0 _ 88 Tryz.underlying22 hj hy0 hy1 hy2 rfl rfl (HK0.out).1 rfl #[.int .i64 ai, .slice P ag.length q, .int .i64 at_, .string ak, .string ab, .int .i64 am, .bool af] (show _ = KW.cel P q ⟨⟨ai, ag, at_, ak, ab⟩, am, af⟩ from rfl) (HRW3.out) (HNE3.out) (by unfold maxLen; omega) (by omega) HBS3.out ?_; intro A7 c7 w6 hko hgr hob; have HKO := Lib.hid hko; have HGR := Lib.hid hgr; have HOB := Lib.hid hob; clear hko hgr hob)
        obtain ⟨hn1, hn2⟩ := grow_step HK0.out (show w1.heap.size ≤ wd.heap.size from Nat.le_trans HBr.out.size hdr.size) hbw1 HKO.out HGR.out HOB.out
        rw [← HP.out] at hn1
        have HN1 := Lib.hid hn1
        have HN2 := Lib.hid ((bmore HBr.out hdr (Nat.le_refl _)).trans hn2)
        clear hn1 hn2
        go_roundw
        case rel => exact ⟨k + 1, A7, n9 + 1, c7, by omega, rfl, by go_num, HN2.out, HN1⟩
        case measure => simp [intOf]; omega
      · have HP := Lib.hid (show (l.take (k + 1)).filter (fun y => decide (y.m.id < xi)) = (l.take k).filter (fun y => decide (y.m.id < xi)) by rw [HP1.out, if_neg (by simpa using hc), List.append_nil])
        have HN1 := HG.out
        rw [← HP.out] at HN1
        have HN := Lib.hid HN1
        clear HN1
        obtain ⟨⟨ai, ag, at_, ak, ab⟩, am, af⟩ := a
        simp only at a0 a1 a2 a3 a4 a5 a6 hc
        go_wp2_with fail
        go_region
        have HN1 := Lib.hid (HN.out.below ((Below.refl _ _).drew))
        have HN2 := Lib.hid (bmore HBr.out ((Below.refl _ _).drew) (Nat.le_refl _))
        go_wp2_with fail
        go_roundw
        case rel => exact ⟨k + 1, A9, n9, c9, by omega, rfl, by go_num, HN2.out, HN1⟩
        case measure => simp [intOf]; omega
    · have HGF := Lib.hid (show Grow w1.heap.size b A9 n9 c9 (l.filter (fun y => decide (y.m.id < xi))) wr by
        have := HG.out
        rwa [List.take_of_length_le (by have := HLA.out; omega)] at this)
      obtain ⟨z0, z1, z2, z3, z4, z5, z6⟩ := box_wt (X.out.below HBr.out X.out.lt)
      have HRW3 := Lib.hid (HXR.out.1.below HB2.out)
      have HNE3 := Lib.hid (show ∀ ad, P = some ad → 0 < xg.length → (Value.slice A9 n9 c9).ownBlock ≠ some ad.block from fun ad e hn kk => by have h1 := HGF.out.2 _ kk; have h2 := HXR.out.2 ad e hn; omega)
      have HBS3 := Lib.hid (show b ≤ wr.heap.size from Nat.le_trans hbw1 HBr.out.size)
      go_wp2_with (at_builtin; refine wpList_append_ko rfl _ _ 22 rfl 52 j0 _ 88 Tryz.underlying22 hj hy0 hy1 hy2 rfl rfl (HGF.out).1 rfl #[.int .i64 xi, .slice P xg.length q, .int .i64 xt, .string xk, .string xb, .int .i64 xm, .bool xf] (show _ = KW.cel P q ⟨⟨xi, xg, xt, xk, xb⟩, xm, xf⟩ from rfl) (HRW3.out) (HNE3.out) (by unfold maxLen; omega) (by omega) HBS3.out ?_; intro A7 c7 w6 hko hgr hob; have HKO := Lib.hid hko; have HGR := Lib.hid hgr; have HOB := Lib.hid hob; clear hko hgr hob)
      obtain ⟨hn1, hn2⟩ := grow_step HGF.out (show w1.heap.size ≤ wr.heap.size from HBr.out.size) hbw1 HKO.out HGR.out HOB.out
      have HG6 := Lib.hid hn1
      have HB6 := Lib.hid (HBr.out.trans hn2)
      clear hn1 hn2 z0 z1 z2 z3 z4 z5 z6
      go_loopw [5, 7] (fun s i wr => ∃ k : Nat, ∃ A9 n9 c9, k ≤ n ∧ s = .slice A9 n9 c9 ∧ i = .int .i64 k ∧ Below w1.heap.size w1 wr ∧ Hid (Grow w1.heap.size b A9 n9 c9 ((l.filter (fun y => decide (y.m.id < xi)) ++ [⟨⟨xi, xg, xt, xk, xb⟩, xm, xf⟩]) ++ (l.take k).filter (fun y => decide (xi < y.m.id))) wr)) (fun _ i _ => n - (intOf i).toNat)
      case atStart => exact ⟨0, A7, n9 + 1, c7, by omega, rfl, rfl, HB6.out, Lib.hid (by simpa using HG6.out)⟩
      case round =>
        clear HG6 HB6 HKO HGR HOB HGF HRW3 HNE3 HBS3 HG HBr HB2 hn9 hlt
        obtain ⟨k, A9, n9, c9, hk, rfl, rfl, hB, HG⟩ := hrel
        have HB2 := Lib.hid (bmore HB.out hB (Nat.le_refl _))
        have HBr := Lib.hid hB
        obtain ⟨z0, z1, z2, z3, z4, z5, z6⟩ := box_wt (X.out.below HBr.out X.out.lt)
        clear hB
        have hn9 : n9 ≤ 9000 := by
          have h1 := HG.out.len
          have h3 := List.length_filter_le (p := fun y : Wt => decide (y.m.id < xi)) l
          rw [List.length_append, List.length_append, List.length_singleton] at h1
          have h4 := HLA.out
          have h2 := List.length_filter_le (p := fun y : Wt => decide (xi < y.m.id)) (l.take k)
          rw [List.length_take] at h2
          omega
        by_cases hlt : k < n
        · obtain ⟨a, ha⟩ : ∃ a, l[k]? = some a := ⟨_, List.getElem?_eq_getElem (by have := HLA.out; omega)⟩
          have HA := Lib.hid ha
          obtain ⟨bl, o, P, q, rfl, _, hbl, hat, hrow⟩ := wtsG_at H0.out ha
          have HRW := Lib.hid (And.intro hrow (fun ad (e : P = some ad) hn => row_lt hrow.1 e hn))
          have HAT := Lib.hid (fun W (hb : Below wr.heap.size wr W) => hat.below hbl (bmore HB2.out hb (Nat.le_refl _)))
          obtain ⟨a0, a1, a2, a3, a4, a5, a6⟩ := HAT.out _ (Below.refl _ _)
          clear ha hat hrow hbl
          have hk0 : (0 : Int) ≤ (k : Int) := by omega
          have hkn : (k : Int) < (n : Int) := by omega
          have HP1 := Lib.hid (filter_take (p := fun y : Wt => decide (xi < y.m.id)) HA.out)
          by_cases hc : (xi < a.m.id)
          · have HP := Lib.hid (show (l.filter (fun y => decide (y.m.id < xi)) ++ [⟨⟨xi, xg, xt, xk, xb⟩, xm, xf⟩]) ++ (l.take (k + 1)).filter (fun y => decide (xi < y.m.id)) = (l.filter (fun y => decide (y.m.id < xi)) ++ [⟨⟨xi, xg, xt, xk, xb⟩, xm, xf⟩]) ++ (l.take k).filter (fun y => decide (xi < y.m.id)) ++ [a] by rw [HP1.out, if_pos (decide_eq_true hc), ← List.append_assoc])
            obtain ⟨⟨ai, ag, at_, ak, ab⟩, am, af⟩ := a
            simp only at a0 a1 a2 a3 a4 a5 a6 hc HRW HAT
            go_wp2_with fail
            go_region
            have hdr : Below wr.heap.size wr wr.drew := (Below.refl _ _).drew
            have HK0 := Lib.hid (HG.out.below hdr)
            have HRW3 := Lib.hid (HRW.out.1.below (bmore HB2.out hdr (Nat.le_refl _)))
            have HNE3 := Lib.hid (show ∀ ad, P = some ad → 0 < ag.length → (Value.slice A9 n9 c9).ownBlock ≠ some ad.block from fun ad e hn kk => by have h1 := HG.out.2 _ kk; have h2 := HRW.out.2 ad e hn; omega)
            have HBS3 := Lib.hid (show b ≤ wr.drew.heap.size from Nat.le_trans hbw1 HBr.out.size)
            have hat2 := HAT.out _ hdr
            clear a0 a1 a2 a3 a4 a5 a6 z0 z1 z2 z3 z4 z5 z6
            generalize wr.drew = wd at hdr HK0 HRW3 HBS3 hat2 ⊢
            obtain ⟨a0, a1, a2, a3, a4, a5, a6⟩ := hat2
            simp only at a0 a1 a2 a3 a4 a5 a6
            go_wp2_with (at_builtin; refine wpList_append_ko rfl _ _ 22 rfl 52 j0 _ 88 Tryz.underlying22 hj hy0 hy1 hy2 rfl rfl (HK0.out).1 rfl #[.int .i64 ai, .slice P ag.length q, .int .i64 at_, .string ak, .string ab, .int .i64 am, .bool af] (show _ = KW.cel P q ⟨⟨ai, ag, at_, ak, ab⟩, am, af⟩ from rfl) (HRW3.out) (HNE3.out) (by unfold maxLen; omega) (by omega) HBS3.out ?_; intro A7 c7 w6 hko hgr hob; have HKO := Lib.hid hko; have HGR := Lib.hid hgr; have HOB := Lib.hid hob; clear hko hgr hob)
            obtain ⟨hn1, hn2⟩ := grow_step HK0.out (show w1.heap.size ≤ wd.heap.size from Nat.le_trans HBr.out.size hdr.size) hbw1 HKO.out HGR.out HOB.out
            rw [← HP.out] at hn1
            have HN1 := Lib.hid hn1
            have HN2 := Lib.hid ((bmore HBr.out hdr (Nat.le_refl _)).trans hn2)
            clear hn1 hn2
            go_roundw
            case rel => exact ⟨k + 1, A7, n9 + 1, c7, by omega, rfl, by go_num, HN2.out, HN1⟩
            case measure => simp [intOf]; omega
          · have HP := Lib.hid (show (l.take (k + 1)).filter (fun y => decide (xi < y.m.id)) = (l.take k).filter (fun y => decide (xi < y.m.id)) by rw [HP1.out, if_neg (by simpa using hc), List.append_nil])
            have HN1 := HG.out
            rw [← HP.out] at HN1
            have HN := Lib.hid HN1
            clear HN1
            obtain ⟨⟨ai, ag, at_, ak, ab⟩, am, af⟩ := a
            simp only at a0 a1 a2 a3 a4 a5 a6 hc
            go_wp2_with fail
            go_region
            have HN1 := Lib.hid (HN.out.below ((Below.refl _ _).drew))
            have HN2 := Lib.hid (bmore HBr.out ((Below.refl _ _).drew) (Nat.le_refl _))
            go_wp2_with fail
            go_roundw
            case rel => exact ⟨k + 1, A9, n9, c9, by omega, rfl, by go_num, HN2.out, HN1⟩
            case measure => simp [intOf]; omega
        · have HF := Lib.hid (show Grow w1.heap.size b A9 n9 c9 res wr by
            have := HG.out
            rw [List.take_of_length_le (by have := HLA.out; omega)] at this
            rw [HINS.out]
            exact this)
          go_wp2_with fail
          go_ret
          exact ⟨A9, n9, c9, rfl, HF.out.1, HB2.out⟩
end Go.Proofs.YtnpgjcapekopnaaGreat.KP
