/-
  What Twin and Write of the document's disks make. Conditions: the disk's slices read as bytes and writes; all its bytes together are no more than one slice may have.
-/
import Derived.Test.YtkdnkaiknmcfmaaRefA
import Derived.Test.YtkdnkaiknmcfmaaDiskG
import Derived.Deep.RegionLaw
import Derived.Deep.DeepCutAuto
namespace Go.Proofs.Ytkdnkaiknmcfmaa
open Go.RowKit
set_option linter.unusedVariables false

/-- the loop's word: of d the first k writes are there anew in the variable at g3 -/
def TwinRel (w : World) (g3 : Nat) (A : Option Addr) (n c : Nat) (B : Option Addr) (m d : Nat) (b : List UInt8) (ps : List DM.Wr) (A5 : Option Addr) (c5 k : Nat) (wr : World) : Prop :=
  Below w.heap.size w wr ∧ Box wr w.heap.size 25 #[.slice A n c, .slice B m d] ∧ Box wr (w.heap.size + 1) 25 #[.slice none 0 0, .slice none 0 0] ∧ w.heap.size + 1 < g3 ∧
  wr.ownsRow (w.heap.size + 1 + 1) 5 1 (.slice A5 n c5) n (bc b) ∧
  ∃ Bo co l, Box wr g3 25 #[.slice A5 n c5, .slice Bo k co] ∧ wr.ownsRow (w.heap.size + 1 + 1) 37 2 (.slice Bo k co) k (pc l) ∧ PairsOwn wr (w.heap.size + 1 + 1) 5 l (ps.take k)
/-- behind the region: the write k is there too -/
theorem twin_next {w wr w4 w5 : World} {g3 n c m d k y c4 c5 co co' : Nat} {A B A4 A5 Bo Bo' : Option Addr} {b dd : List UInt8} {ps : List DM.Wr} {s : Bool} {l : List (Bool × Value)} {o : Obj}
    (h1 : Below w.heap.size w wr) (h2 : Box wr w.heap.size 25 #[.slice A n c, .slice B m d]) (h3 : Box wr (w.heap.size + 1) 25 #[.slice none 0 0, .slice none 0 0]) (hg3 : w.heap.size + 1 < g3)
    (h4 : wr.ownsRow (w.heap.size + 1 + 1) 5 1 (.slice A5 n c5) n (bc b)) (h5 : Box wr g3 25 #[.slice A5 n c5, .slice Bo k co]) (h6 : wr.ownsRow (w.heap.size + 1 + 1) 37 2 (.slice Bo k co) k (pc l)) (h7 : PairsOwn wr (w.heap.size + 1 + 1) 5 l (ps.take k))
    (hk : ps[k]? = some (s, dd)) (hy : dd.length = y) (ho4 : w4.ownsRow wr.drew.heap.size 5 1 (.slice A4 y c4) y (bc dd)) (hb4 : Below wr.drew.heap.size wr.drew w4)
    (ho5 : w5.ownsRow (w.heap.size + 1 + 1) 37 2 (.slice Bo' (k + 1) co') (k + 1) (pc l ++ [.bool s, .slice A4 y c4])) (hg5 : (w4.alloc o).grownBy w5 (Value.ownBlock (.slice Bo k co))) :
    TwinRel w g3 A n c B m d b ps A5 c5 (k + 1) (w5.setCell ⟨g3, 1, none⟩ (.slice Bo' (k + 1) co')) := by
  obtain ⟨hlt, he⟩ := List.getElem?_eq_some_iff.1 hk
  have hw4 : Below wr.heap.size wr (w4.alloc o) := (((Below.refl _ _).drew).trans hb4).alloc hb4.size o
  have hs3 := h3.lt
  have e6 := own_below2 h6 hw4
  have e2 := box_grown (h2.below hw4 h2.lt) hg5 (own_box_ne e6 (h2.below hw4 h2.lt) (by decide))
  have e3 := box_grown (h3.below hw4 h3.lt) hg5 (own_box_ne e6 (h3.below hw4 h3.lt) (by decide))
  have e5 := box_grown (h5.below hw4 h5.lt) hg5 (own_box_ne e6 (h5.below hw4 h5.lt) (by decide))
  have far : ∀ {v : Value} {q : Nat} {xs : List Value}, (w4.alloc o).ownsRow (w.heap.size + 1 + 1) 5 1 v q xs → w5.ownsRow (w.heap.size + 1 + 1) 5 1 v q xs := fun h => own_grown h hg5 (own_ne e6 h (by decide))
  have e4 := far (own_below2 h4 hw4)
  have o4 : w5.ownsRow (w.heap.size + 1 + 1) 5 1 (.slice A4 y c4) y (bc dd) := far (own_mono (own_below2 ho4 ((Below.refl _ _).alloc (Nat.le_refl _) o)) (by show w.heap.size + 1 + 1 ≤ wr.heap.size; omega))
  have hB5 : Below w.heap.size w w5 := (bmore h1 hw4 (Nat.le_refl _)).grown hg5 (Nat.le_trans h1.size hw4.size) (fun g hg => by have := own_block_ge e6 g hg; omega)
  have hbx : Box (w5.setCell ⟨g3, 1, none⟩ (.slice Bo' (k + 1) co')) g3 25 #[.slice A5 n c5, .slice Bo' (k + 1) co'] := by
    have := e5.stored 1 (.slice Bo' (k + 1) co')
    simpa using this
  have hlk : l.length = k := by have := h7.1; rw [List.length_take] at this; omega
  refine ⟨hB5.setCell (p := ⟨g3, 1, none⟩) (by show w.heap.size ≤ g3; omega) _, e2.far (p := ⟨g3, 1, none⟩) (by show w.heap.size ≠ g3; omega) _, e3.far (p := ⟨g3, 1, none⟩) (by show w.heap.size + 1 ≠ g3; omega) _, hg3,
    own_far e4 e5 (by decide), Bo', co', l ++ [(s, .slice A4 y c4)], hbx, ?_, ?_⟩
  · rw [pc_append]; exact own_far ho5 e5 (by decide)
  · rw [List.take_succ_eq_append_getElem hlt, he]
    refine ⟨by rw [List.length_append, List.length_append, h7.1]; rfl, fun i p q hp hq => ?_⟩
    rcases Nat.lt_or_ge i l.length with hil | hil
    · rw [List.getElem?_append_left hil] at hp
      rw [List.getElem?_append_left (by rw [← h7.1]; exact hil)] at hq
      obtain ⟨j1, j2⟩ := h7.2 i p q hp hq
      exact ⟨j1, own_far (far (own_below2 j2 hw4)) e5 (by decide)⟩
    · rw [List.getElem?_append_right hil] at hp
      rw [List.getElem?_append_right (by rw [← h7.1]; exact hil), ← h7.1] at hq
      rcases Nat.eq_zero_or_pos (i - l.length) with h0 | h0
      · rw [h0] at hp hq
        simp at hp hq
        subst hp; subst hq
        refine ⟨rfl, ?_⟩
        show (w5.setCell _ _).ownsRow _ _ _ (.slice A4 y c4) dd.length (bc dd)
        rw [hy]
        exact own_far o4 e5 (by decide)
      · rw [List.getElem?_eq_none (by simp; omega)] at hp; cases hp

set_option maxRecDepth 100000 in
set_option maxHeartbeats 16000000 in
theorem twin_any (v : Value) (b : List UInt8) (ps : List DM.Wr) (w : World) (HV : Hid (DiskIs w v b ps)) (HT : Hid (DM.total b ps ≤ 140737488355328)) (hps0 : ps.length ≤ 100000) :
    Calls Try.prog 16 #[v] w fun e w' => ∃ A c B d, e = .returned (.agg #[.slice A b.length c, .slice B ps.length d]) ∧ DiskOwn w' w.heap.size 5 37 (.agg #[.slice A b.length c, .slice B ps.length d]) b ps ∧ Below w.heap.size w w' := by
  obtain ⟨i0, hi, hz0, hz1, hz2⟩ := info_parts info_byte
  obtain ⟨j0, hj, hy0, hy1, hy2⟩ := info_parts info_put
  obtain ⟨A, n, c, B, m, d, rfl, h1, h2, h3, h4, h5, h6⟩ := HV.out
  have hbl : b.length = n := by have := h5.1; rwa [bc_length] at this
  have hpl := h6.1
  rw [hbl, hpl]
  rw [hpl] at hps0
  have hn47 : n ≤ 140737488355328 := by have := HT.out; unfold DM.total at this; omega
  have hB0 : Below w.heap.size w ((w.alloc (.cells #[.slice A n c, .slice B m d] 25)).alloc (.cells #[.slice none 0 0, .slice none 0 0] 25)) := ((Below.refl _ _).alloc (Nat.le_refl _) _).alloc (by simp) _
  have X : Hid (Box ((w.alloc (.cells #[.slice A n c, .slice B m d] 25)).alloc (.cells #[.slice none 0 0, .slice none 0 0] 25)) w.heap.size 25 #[.slice A n c, .slice B m d]) := Lib.hid ((Box.new _ _ _).alloc _)
  have Y : Hid (Box ((w.alloc (.cells #[.slice A n c, .slice B m d] 25)).alloc (.cells #[.slice none 0 0, .slice none 0 0] 25)) (w.heap.size + 1) 25 #[.slice none 0 0, .slice none 0 0]) := Lib.hid (Box.new_at _ (by simp))
  have HR := Lib.hid (h5.below hB0)
  have HW0 := Lib.hid h6
  have HB := Lib.hid hB0
  have HBL := Lib.hid hbl
  have HPL := Lib.hid hpl
  clear h1 h2 h3 h4 h5 h6 hB0 HV hbl hpl
  go_enter Try.func16, Try.ntmps16
  go_upto_region 1 with (fail)
  generalize (w.alloc (.cells #[.slice A n c, .slice B m d] 25)).alloc (.cells #[.slice none 0 0, .slice none 0 0] 25) = w1 at X Y HR HB ⊢
  have k0 : w1.cell? ⟨w.heap.size, 0, none⟩ = some (.slice A n c) := X.out.cell 0
  go_wp2_with (at_builtin; refine wpList_append_rd _ rfl _ _ 22 rfl w1.heap.size 5 i0 (.int .u8 0) 1 Try.underlying22 hi hz0 hz1 hz2 rfl (.slice none 0 0) 0 [] rfl (World.ownsRow_nil _ _ _ _) A n c (bc b) rfl HR.out (bc_one b) (by unfold maxLen; omega) (by omega) (Nat.le_refl _) ?_; intro v2 w2 hown2 hg2 hob2; simp only [Nat.zero_add, List.nil_append] at hown2; obtain ⟨A2, c2, hv2, _, _⟩ := own_slice hown2; subst hv2)
  have hb2 : Below w1.heap.size w1 w2 := below_of_grown hg2 (by simp [Value.ownBlock])
  have hstart : TwinRel w w2.heap.size A n c B m d b ps A2 c2 0 (w2.alloc (.cells #[.slice A2 n c2, .slice none 0 0] 25)) := by
    have hy1 := Y.out.lt
    have hb3 : Below w1.heap.size w1 (w2.alloc (.cells #[.slice A2 n c2, .slice none 0 0] 25)) := hb2.alloc hb2.size _
    exact ⟨bmore HB.out hb3 (Nat.le_refl _), X.out.below hb3 X.out.lt, Y.out.below hb3 Y.out.lt, by have := hb2.size; omega, own_mono (own_below2 hown2 ((Below.refl _ _).alloc (Nat.le_refl _) _)) (by omega), none, 0, [], Box.new _ _ _, World.ownsRow_nil _ _ _ _, by simp, fun i p q hp => by simp at hp⟩
  have HS := Lib.hid hstart
  clear hstart hown2 hg2 hob2 hb2 k0 X Y HR HB
  go_wp2_with fail
  generalize w2.alloc (.cells #[.slice A2 n c2, .slice none 0 0] 25) = w3 at HS ⊢
  generalize w2.heap.size = g3 at HS ⊢
  go_loopw [4] (fun i wr => ∃ k : Nat, k ≤ m ∧ i = .int .i64 k ∧ TwinRel w g3 A n c B m d b ps A2 c2 k wr) (fun i _ => m - (intOf i).toNat)
  case atStart => exact ⟨0, by omega, rfl, HS.out⟩
  case round =>
    clear HS
    obtain ⟨k, hk, rfl, hrel⟩ := hrel
    obtain ⟨r1, r2, r3, r4, r5, Bo, co, l, r6, r7, r8⟩ := hrel
    by_cases hlt : k < m
    · obtain ⟨bl, o, Ai, ci, s, dd, rfl, hadb, hps, hc0', hc1', g1, g2, hrd'⟩ := HW0.out.at_ hlt
      have hc0 := (r1.cell (p := ⟨bl, o + k * 2, none⟩) hadb).trans hc0'
      have hc1 := (r1.cell (p := ⟨bl, o + k * 2 + 1, none⟩) hadb).trans hc1'
      have hrd := hrd'.below r1
      obtain ⟨hltp, he⟩ := List.getElem?_eq_some_iff.1 hps
      have ht1 := DM.total_at b ps k hltp
      rw [he] at ht1
      obtain ⟨y, hy⟩ : ∃ y, dd.length = y := ⟨_, rfl⟩
      simp only at ht1
      rw [hy] at hc1 hrd g1 ht1
      have hy47 : y ≤ 140737488355328 := by have := HT.out; omega
      have kd : wr.cell? ⟨w.heap.size, 1, none⟩ = some (.slice (some ⟨bl, o, none⟩) m d) := r2.cell 1
      have ko : wr.cell? ⟨g3, 1, none⟩ = some (.slice Bo k co) := r6.cell 1
      have hmid : ∀ A4 c4 w4 Bo' co' w5, w4.ownsRow wr.drew.heap.size 5 1 (.slice A4 y c4) y (bc dd) → Below wr.drew.heap.size wr.drew w4 → w5.ownsRow (w.heap.size + 1 + 1) 37 2 (.slice Bo' (k + 1) co') (k + 1) (pc l ++ [.bool s, .slice A4 y c4]) → (w4.alloc (.cells #[.bool s, .slice A4 y c4] 37)).grownBy w5 (Value.ownBlock (.slice Bo k co)) →
          TwinRel w g3 A n c (some ⟨bl, o, none⟩) m d b ps A2 c2 (k + 1) (w5.setCell ⟨g3, 1, none⟩ (.slice Bo' (k + 1) co')) := fun A4 c4 w4 Bo' co' w5 q1 q2 q3 q4 => twin_next r1 r2 r3 r4 r5 r6 r7 r8 hps hy q1 q2 q3 q4
      have HMid := Lib.hid hmid
      have HRd := Lib.hid hrd
      have hg3 : g3 < wr.heap.size := r6.lt
      have hbl : bl < wr.heap.size := Nat.lt_of_lt_of_le hadb r1.size
      have hwl : w.heap.size < wr.heap.size := r2.lt
      have HO := Lib.hid r7
      have BX6 := Lib.hid r6
      have hbase : w.heap.size + 1 + 1 ≤ wr.heap.size := by have := r3.lt; omega
      have i0' : (0 : Int) ≤ (k : Int) := by omega
      have i1 : (k : Int) < (m : Int) := by omega
      clear hmid hrd hrd' hc0' hc1' g1 g2 he hps r1 r2 r3 r5 r6 r7 r8 ht1 hy hltp
      go_upto_region 5 with (fail)
      go_region_law (first
          | (refine step_append_fresh _ (by rfl) _ _ 22 (by rfl) 5 i0 _ 1 Try.underlying22 hi hz0 hz1 hz2 rfl (by rfl) Ai y ci (bc dd) (by rfl) HRd.out.drew (bc_one dd) (by unfold maxLen; omega) (by omega) ?_
             intro A4 c4 w4 hown4 hb4
             have hB4 : Below wr.heap.size wr w4 := ((Below.refl _ _).drew).trans hb4
             have hB5 : Below wr.heap.size wr (w4.alloc (.cells #[.bool s, .slice A4 y c4] 37)) := hB4.alloc hB4.size _
             have kd4 := (hB4.cell (p := ⟨w.heap.size, 1, none⟩) hwl).trans kd
             have ko4 := (hB4.cell (p := ⟨g3, 1, none⟩) hg3).trans ko
             have hc04 := (hB4.cell (p := ⟨bl, o + k * 2, none⟩) hbl).trans hc0
             have hc14 := (hB4.cell (p := ⟨bl, o + k * 2 + 1, none⟩) hbl).trans hc1
             have kd5 := (hB5.cell (p := ⟨w.heap.size, 1, none⟩) hwl).trans kd
             have ko5 := (hB5.cell (p := ⟨g3, 1, none⟩) hg3).trans ko
             have hs5 := hB5.size)
          | (refine step_append_row _ (by rfl) _ _ 23 (by rfl) (w.heap.size + 1 + 1) 37 j0 _ 2 32 Try.underlying23 hj hy0 hy1 hy2 rfl (by omega) Bo k co (pc l) (by rfl) (own_below2 HO.out hB5) ⟨w4.heap.size, 0, none⟩ 1 [.bool s, .slice A4 y c4] (by rfl) (rdS_new w4 _ _ _) (by simp [Value.oneCell']) (by unfold maxLen; omega) (by omega) (Nat.le_trans hbase hs5) ?_
             intro Bo' co' w5 hown5 hg5
             have bx5 := box_grown (BX6.out.below hB5 BX6.out.lt) hg5 (own_box_ne (own_below2 HO.out hB5) (BX6.out.below hB5 BX6.out.lt) (by decide))
             have st0 : w5.cell? ⟨g3, 1, none⟩ = some (.slice Bo k co) := bx5.cell 1
             have st1 : w5.frozen? ⟨g3, 1, none⟩ = false := bx5.frozen 1))
      all_goals
        have hnext := HMid.out _ _ _ _ _ _ hown4 hb4 hown5 hg5
        clear hown4 hb4 hown5 hg5 hB4 hB5 kd4 ko4 hc04 hc14 kd5 ko5 bx5 st0 st1 HMid HRd kd ko hc0 hc1 HO BX6
        go_wp2_with fail
        go_roundw
        case rel => exact ⟨k + 1, by omega, by go_num, hnext⟩
        case measure => simp [intOf]; omega
    · obtain rfl : m = k := by omega
      have hfin : DiskOwn wr (w.heap.size + 1 + 1) 5 37 (.agg #[.slice A2 n c2, .slice Bo m co]) b ps := by
        have e1 : ps.take m = ps := List.take_of_length_le (by rw [HPL.out]; omega)
        rw [e1] at r8
        refine ⟨_, _, l, rfl, by rw [HBL.out]; exact r5, by rw [HPL.out]; exact r7, r8⟩
      have HF := Lib.hid hfin
      have HBb := Lib.hid r1
      have q0 : wr.cell? ⟨g3, 0, none⟩ = some (.slice A2 n c2) := r6.cell 0
      have q1 : wr.cell? ⟨g3, 1, none⟩ = some (.slice Bo m co) := r6.cell 1
      have z0 : wr.cell? ⟨w.heap.size + 1, 0, none⟩ = some (.slice none 0 0) := r3.cell 0
      have z1 : wr.cell? ⟨w.heap.size + 1, 1, none⟩ = some (.slice none 0 0) := r3.cell 1
      have z2 : wr.frozen? ⟨w.heap.size + 1, 0, none⟩ = false := r3.frozen 0
      have z3 : wr.frozen? ⟨w.heap.size + 1, 1, none⟩ = false := r3.frozen 1
      have kd : wr.cell? ⟨w.heap.size, 1, none⟩ = some (.slice B m d) := r2.cell 1
      clear r1 r2 r3 r5 r6 r7 r8 hfin
      go_wp2_with fail
      exact bodyPost_ret (v := .agg #[.slice A2 n c2, .slice Bo m co]) (by simp [results, Try.results16, go_sem, z0, z1]) rfl ⟨_, _, _, _, rfl, (HF.out.put (by omega) _ _).mono (by omega), below_put HBb.out (by omega) _ _⟩
end Go.Proofs.Ytkdnkaiknmcfmaa
