/-
  What done, May and Seen of the document's disks answer. Conditions: the disk's slices read as bytes and writes; all its bytes together are no more than one slice may have.
-/
import Derived.Test.YtkdnkaiknmcfmaaDiskV
import Derived.Test.YtkdnkaiknmcfmaaMemQ
namespace Go.Proofs.Ytkdnkaiknmcfmaa
open Go.RowKit
set_option linter.unusedVariables false

def DonePost (w : World) (r : List UInt8) (n : Nat) (p : Prop) (e : Ending) (w' : World) : Prop :=
  ∃ A c g, e = .returned (.tuple #[.slice A n c, .bool g]) ∧ w'.ownsRow w.heap.size 5 1 (.slice A n c) n (bc r) ∧ (g = true ↔ p) ∧ Below w.heap.size w w'
def DoneRel (w : World) (b : List UInt8) (ps : List DM.Wr) (k n : Nat) (A : Option Addr) (c : Nat) (g : Bool) (wr : World) : Prop :=
  n = (DM.behind b (ps.take k)).length ∧ wr.ownsRow w.heap.size 5 1 (.slice A n c) n (bc (DM.behind b (ps.take k))) ∧ (g = true ↔ DM.fits b (ps.take k)) ∧ Below w.heap.size w wr
theorem fits_succ {b : List UInt8} {ps : List DM.Wr} {k : Nat} {q : DM.Wr} (hk : ps[k]? = some q) : DM.fits b (ps.take (k + 1)) ↔ DM.fits b (ps.take k) ∧ DM.more (DM.behind b (ps.take k)).length q ≤ 1048576 := by
  obtain ⟨hlt, he⟩ := List.getElem?_eq_some_iff.1 hk
  rw [List.take_succ_eq_append_getElem hlt, he, DM.fits_snoc]
theorem doneRel_next {w wr w1 w2 : World} {b d : List UInt8} {ps : List DM.Wr} {k n n0 z c : Nat} {A : Option Addr} {g : Bool} {v u0 : Value} {s : Bool} {xs : List Value} (h : DoneRel w b ps k n A c g wr) (hk : ps[k]? = some (s, d)) (hb1 : Below w.heap.size w w1)
    (hn0 : n0 = if s then 0 else n) (hxs : xs = bc (if s then [] else DM.behind b (ps.take k))) (hu0 : ∀ g, u0.ownBlock = some g → w.heap.size ≤ g) (hz : d.length = z)
    (ho : w2.ownsRow w.heap.size 5 1 v (n0 + z) (xs ++ bc d)) (hg : w1.grownBy w2 u0.ownBlock) :
    ∃ A' c', v = .slice A' (n0 + z) c' ∧ DoneRel w b ps (k + 1) (n0 + z) A' c' (g && decide (n0 + z ≤ 1048576)) w2 := by
  obtain ⟨h1, h2, h3, h4⟩ := h
  obtain ⟨hlt, he⟩ := List.getElem?_eq_some_iff.1 hk
  obtain ⟨A', c', rfl, _, _⟩ := own_slice ho
  have hlen : (if s then [] else DM.behind b (ps.take k)).length = n0 := by rw [hn0]; cases s <;> simp [h1]
  refine ⟨A', c', rfl, ?_, ?_, ?_, hb1.grown hg hb1.size hu0⟩
  · rw [DM.behind_take _ _ _ hlt, he, DM.step, List.length_append, hlen, hz]
  · rw [DM.behind_take _ _ _ hlt, he, DM.step, bc_append, ← hxs]; exact ho
  · rw [fits_succ hk, Bool.and_eq_true, h3, decide_eq_true_iff, DM.more]
    simp only
    rw [hn0, ← h1, hz]

set_option maxRecDepth 100000 in
set_option maxHeartbeats 4000000 in
theorem done_any (v : Value) (b : List UInt8) (ps : List DM.Wr) (kk n9 : Nat) (w : World) (HV : Hid (DiskIs w v b ps)) (HT : Hid (DM.total b ps ≤ 140737488355328)) (hkk : kk ≤ ps.length) (Hn9 : Hid ((DM.behind b (ps.take kk)).length = n9)) :
    Calls Try.prog 48 #[v, .int .i64 kk] w (DonePost w (DM.behind b (ps.take kk)) n9 (DM.fits b (ps.take kk))) := by
  obtain ⟨i0, hi, hz0, hz1, hz2⟩ := info_parts info_byte
  obtain ⟨A, n, c, B, m, d, rfl, h1, h2, h3, h4, h5, h6⟩ := HV.out
  have hd : d ≤ 9223372036854775807 := by unfold maxLen at h4; omega
  have hbl : b.length = n := by have := h5.1; rwa [bc_length] at this
  have hn47 : n ≤ 140737488355328 := by have := HT.out; unfold DM.total at this; omega
  have hB0 : Below w.heap.size w (w.alloc (.cells #[.slice A n c, .slice B m d] 25)) := (Below.refl _ _).alloc (Nat.le_refl _) _
  have X := Lib.hid (Box.new w 25 #[.slice A n c, .slice B m d])
  have HR := Lib.hid (h5.below hB0)
  have HW := Lib.hid (h6.below hB0)
  have HB := Lib.hid hB0
  have HPL := Lib.hid h6.1
  have hkm : kk ≤ m := by have := h6.1; omega
  have HBL := Lib.hid hbl
  clear h2 h4 h5 h6 hB0 HV hbl hkk
  go_enter Try.func48, Try.ntmps48
  go_upto_region 1 with (fail)
  generalize w.alloc (.cells #[.slice A n c, .slice B m d] 25) = w1 at X HR HW HB ⊢
  have k0 : w1.cell? ⟨w.heap.size, 0, none⟩ = some (.slice A n c) := X.out.cell 0
  have hgw : w.heap.size < w1.heap.size := X.out.lt
  go_wp2_with (at_builtin; refine wpList_append_rd _ rfl _ _ 22 rfl w1.heap.size 5 i0 (.int .u8 0) 1 Try.underlying22 hi hz0 hz1 hz2 rfl (.slice none 0 0) 0 [] rfl (World.ownsRow_nil _ _ _ _) A n c (bc b) rfl HR.out (bc_one b) (by unfold maxLen; omega) (by omega) (Nat.le_refl _) ?_; intro v2 w2 hown2 hg2 hob2; simp only [Nat.zero_add, List.nil_append] at hown2; obtain ⟨A2, c2, hv2, _, _⟩ := own_slice hown2; subst hv2)
  have hstart : DoneRel w1 b ps 0 n A2 c2 (decide (n ≤ 1048576)) w2 := by
    refine ⟨by simp [DM.behind]; exact HBL.out.symm, by simpa [DM.behind] using hown2, ?_, below_of_grown hg2 (by simp [Value.ownBlock])⟩
    rw [List.take_zero, DM.fits_nil, HBL.out, decide_eq_true_iff]
  have HS := Lib.hid hstart
  clear hstart hown2 hg2 hob2 k0
  go_loopw [6, 7, 8] (fun u o i wr => ∃ (k x : Nat) (A3 : Option Addr) (c3 : Nat) (g : Bool), k ≤ kk ∧ i = .int .i64 k ∧ u = .slice A3 x c3 ∧ o = .bool g ∧ DoneRel w1 b ps k x A3 c3 g wr) (fun _ _ i _ => kk - (intOf i).toNat)
  case atStart =>
    refine ⟨0, n, A2, c2, decide (n ≤ 1048576), by omega, rfl, rfl, ?_, HS.out⟩
    first | rfl | (simp; omega)
  case round =>
    clear HS
    obtain ⟨k, x, A3, c3, g, hk, rfl, rfl, rfl, hrel⟩ := hrel
    by_cases hlt : k < kk
    · have hbel := hrel.2.2.2
      obtain ⟨bl, o, Ai, ci, s, dd, rfl, hadb, hps, hc0, hc1, g1, g2, hrd⟩ := (HW.out.below hbel).at_ (show k < m by omega)
      have hws := hbel.size
      have kx : wr.cell? ⟨w.heap.size, 1, none⟩ = some (.slice (some ⟨bl, o, none⟩) m d) := (X.out.below hbel X.out.lt).cell 1
      obtain ⟨hlt2, he⟩ := List.getElem?_eq_some_iff.1 hps
      have ht1 := DM.total_at b ps k hlt2
      have ht2 := DM.behind_total b (ps.take k)
      rw [he] at ht1
      rw [← hrel.1] at ht2
      obtain ⟨y, hy⟩ : ∃ y, dd.length = y := ⟨_, rfl⟩
      simp only at ht1
      rw [hy] at hc1 hrd g1 ht1
      have hxy : x + y ≤ 140737488355328 := by have := HT.out; omega
      have HRel := Lib.hid hrel
      have HPs := Lib.hid hps
      have HY := Lib.hid hy
      have HRd := Lib.hid hrd
      have HO := Lib.hid hrel.2.1
      have hci : ci ≤ 9223372036854775807 := by unfold maxLen at g2; omega
      have i0' : (0 : Int) ≤ (k : Int) := by omega
      have i1 : (k : Int) < (m : Int) := by omega
      clear hrel hps hrd he g2 ht1 ht2 hy hlt2
      cases s with
      | true =>
        cases g with
        | true =>
          go_wp2_with (at_builtin; refine wpList_append_rd _ rfl _ _ 22 rfl w1.heap.size 5 i0 (.int .u8 0) 1 Try.underlying22 hi hz0 hz1 hz2 rfl (.slice none 0 0) 0 [] rfl (World.ownsRow_nil _ _ _ _) Ai y ci (bc dd) rfl HRd.out (bc_one dd) (by unfold maxLen; omega) (by omega) hws ?_; intro v2 w2 hown2 hg2 hob2; obtain ⟨A4, c4, hv4, hnext⟩ := doneRel_next HRel.out HPs.out hbel (n0 := 0) (u0 := .slice none 0 0) (xs := []) (by simp) (by simp [bc]) (by simp [Value.ownBlock]) HY.out hown2 hg2; subst hv4; clear hown2 hg2 hob2)
          go_roundw
          case rel => exact ⟨k + 1, 0 + y, A4, c4, _, by omega, by go_num, by first | rfl | simp, by first | (simp; done) | (simp; omega), hnext⟩
          case measure => simp [intOf]; omega
        | false =>
          go_wp2_with (at_builtin; refine wpList_append_rd _ rfl _ _ 22 rfl w1.heap.size 5 i0 (.int .u8 0) 1 Try.underlying22 hi hz0 hz1 hz2 rfl (.slice none 0 0) 0 [] rfl (World.ownsRow_nil _ _ _ _) Ai y ci (bc dd) rfl HRd.out (bc_one dd) (by unfold maxLen; omega) (by omega) hws ?_; intro v2 w2 hown2 hg2 hob2; obtain ⟨A4, c4, hv4, hnext⟩ := doneRel_next HRel.out HPs.out hbel (n0 := 0) (u0 := .slice none 0 0) (xs := []) (by simp) (by simp [bc]) (by simp [Value.ownBlock]) HY.out hown2 hg2; subst hv4; clear hown2 hg2 hob2)
          go_roundw
          case rel => exact ⟨k + 1, 0 + y, A4, c4, _, by omega, by go_num, by first | rfl | simp, by first | (simp; done) | (simp; omega), hnext⟩
          case measure => simp [intOf]; omega
      | false =>
        cases g with
        | true =>
          go_wp2_with (at_builtin; refine wpList_append_rd _ rfl _ _ 22 rfl w1.heap.size 5 i0 (.int .u8 0) 1 Try.underlying22 hi hz0 hz1 hz2 rfl (.slice A3 x c3) x (bc (DM.behind b (ps.take k))) rfl HO.out Ai y ci (bc dd) rfl HRd.out (bc_one dd) (by unfold maxLen; omega) (by omega) hws ?_; intro v2 w2 hown2 hg2 hob2; obtain ⟨A4, c4, hv4, hnext⟩ := doneRel_next HRel.out HPs.out hbel (n0 := x) (u0 := .slice A3 x c3) (xs := bc (DM.behind b (ps.take k))) (by simp) (by simp) (own_block_ge HO.out) HY.out hown2 hg2; subst hv4; clear hown2 hg2 hob2)
          go_roundw
          case rel => exact ⟨k + 1, x + y, A4, c4, _, by omega, by go_num, by first | rfl | simp, by first | (simp; done) | (simp; omega), hnext⟩
          case measure => simp [intOf]; omega
        | false =>
          go_wp2_with (at_builtin; refine wpList_append_rd _ rfl _ _ 22 rfl w1.heap.size 5 i0 (.int .u8 0) 1 Try.underlying22 hi hz0 hz1 hz2 rfl (.slice A3 x c3) x (bc (DM.behind b (ps.take k))) rfl HO.out Ai y ci (bc dd) rfl HRd.out (bc_one dd) (by unfold maxLen; omega) (by omega) hws ?_; intro v2 w2 hown2 hg2 hob2; obtain ⟨A4, c4, hv4, hnext⟩ := doneRel_next HRel.out HPs.out hbel (n0 := x) (u0 := .slice A3 x c3) (xs := bc (DM.behind b (ps.take k))) (by simp) (by simp) (own_block_ge HO.out) HY.out hown2 hg2; subst hv4; clear hown2 hg2 hob2)
          go_roundw
          case rel => exact ⟨k + 1, x + y, A4, c4, _, by omega, by go_num, by first | rfl | simp, by first | (simp; done) | (simp; omega), hnext⟩
          case measure => simp [intOf]; omega
    · obtain rfl : kk = k := by omega
      have hx9 : x = n9 := by rw [← Hn9.out]; exact hrel.1
      subst hx9
      have hfin : DonePost w (DM.behind b (ps.take kk)) x (DM.fits b (ps.take kk)) (.returned (.tuple #[.slice A3 x c3, .bool g])) wr :=
        ⟨A3, c3, g, rfl, own_mono hrel.2.1 (by omega), hrel.2.2.1, HB.out.trans (hrel.2.2.2.mono (by omega))⟩
      have HF := Lib.hid hfin
      clear hfin hrel
      go_wp2_with fail
      go_ret2
      exact HF.out

def GIs (g : Bool) (b : List UInt8) (ps : List DM.Wr) : Prop := g = true ↔ DM.may b ps
/-- a bool that answers a question -/
def BoolAns (w : World) (g : Bool) (e : Ending) (w' : World) : Prop := e = .returned (.bool g) ∧ Below w.heap.size w w'

set_option maxRecDepth 100000 in
set_option maxHeartbeats 2000000 in
theorem may_any (v : Value) (b : List UInt8) (ps : List DM.Wr) (g : Bool) (w : World) (HV : Hid (DiskIs w v b ps)) (HT : Hid (DM.total b ps ≤ 140737488355328)) (HG : Hid (GIs g b ps)) :
    Calls Try.prog 36 #[v] w (BoolAns w g) := by
  obtain ⟨A, n, c, B, m, d, rfl, h1, h2, h3, h4, h5, h6⟩ := HV.out
  have hd : d ≤ 9223372036854775807 := by unfold maxLen at h4; omega
  have hpl := h6.1
  have hB0 : Below w.heap.size w (w.alloc (.cells #[.slice A n c, .slice B m d] 25)) := (Below.refl _ _).alloc (Nat.le_refl _) _
  have X := Lib.hid (Box.new w 25 #[.slice A n c, .slice B m d])
  have HV1 := Lib.hid (HV.out.below hB0)
  have HB := Lib.hid hB0
  clear h2 h4 h5 h6 hB0 HV
  by_cases hm : 1024 < m
  · have hg : g = false := by
      have : ¬ DM.may b ps := fun h => by have := h.1; omega
      cases g with
      | true => exact absurd ((show true = true ↔ DM.may b ps from HG.out).1 rfl) this
      | false => rfl
    subst hg
    have HPL := Lib.hid hpl; clear hpl
    go_enter Try.func36, Try.ntmps36
    go_wp2_with fail
    go_ret
    exact ⟨rfl, HB.out⟩
  · have hmay : DM.may b ps ↔ DM.fits b (ps.take m) := by
      rw [← hpl, List.take_length]
      exact ⟨fun h => h.2, fun h => ⟨by omega, h⟩⟩
    have HM := Lib.hid hmay
    have hml : m ≤ ps.length := by omega
    have HPL := Lib.hid hpl; clear hpl hmay
    obtain ⟨n9, hn9⟩ : ∃ k, (DM.behind b (ps.take m)).length = k := ⟨_, rfl⟩
    have HN9 := Lib.hid hn9; clear hn9
    go_enter Try.func36, Try.ntmps36
    go_wp2_with fail
    refine (done_any _ b ps m n9 _ HV1 HT hml HN9).mono ?_
    rintro e w2 ⟨A2, c2, g2, rfl, hown, hg2, hb2⟩
    have hgg : g2 = g := by
      have : g2 = true ↔ g = true := hg2.trans (HM.out.symm.trans (show g = true ↔ DM.may b ps from HG.out).symm)
      cases g <;> cases g2 <;> simp_all
    subst hgg
    have HB2 := Lib.hid (bmore HB.out hb2 (Nat.le_refl _))
    clear hown hg2 hb2
    go_wp2
    go_ret
    exact ⟨rfl, HB2.out⟩

set_option maxRecDepth 100000 in
set_option maxHeartbeats 2000000 in
theorem seen_any (v : Value) (b r : List UInt8) (ps : List DM.Wr) (n9 : Nat) (w : World) (HV : Hid (DiskIs w v b ps)) (HT : Hid (DM.total b ps ≤ 140737488355328)) (Hr : Hid (r = DM.behind b ps)) (Hn9 : Hid (r.length = n9)) :
    Calls Try.prog 45 #[v] w (SlPost w r n9) := by
  obtain ⟨A, n, c, B, m, d, rfl, h1, h2, h3, h4, h5, h6⟩ := HV.out
  have hd : d ≤ 9223372036854775807 := by unfold maxLen at h4; omega
  have hpl := h6.1
  have hB0 : Below w.heap.size w (w.alloc (.cells #[.slice A n c, .slice B m d] 25)) := (Below.refl _ _).alloc (Nat.le_refl _) _
  have HV1 := Lib.hid (HV.out.below hB0)
  have HB := Lib.hid hB0
  have hml : m ≤ ps.length := by omega
  have hn9 : (DM.behind b (ps.take m)).length = n9 := by rw [← hpl, List.take_length, ← Hr.out]; exact Hn9.out
  have hr9 : DM.behind b (ps.take m) = r := by rw [← hpl, List.take_length]; exact Hr.out.symm
  have HN9 := Lib.hid hn9
  have HR9 := Lib.hid hr9
  clear h2 h4 h5 h6 hB0 HV hpl hn9 hr9
  go_enter Try.func45, Try.ntmps45
  go_wp2_with fail
  refine (done_any _ b ps m n9 _ HV1 HT hml HN9).mono ?_
  rintro e w2 ⟨A2, c2, g2, rfl, hown, hg2, hb2⟩
  rw [HR9.out] at hown
  have HO := Lib.hid hown
  have HB2 := Lib.hid (bmore HB.out hb2 (Nat.le_refl _))
  clear hown hg2 hb2
  go_wp2
  go_ret
  exact ⟨A2, c2, rfl, own_mono HO.out (by simp), HB2.out⟩
end Go.Proofs.Ytkdnkaiknmcfmaa
