/-
  The document's own without (towncrierref15): what waits but for one. Conditions: a slice that reads as such, of at most 4,096.
-/
import Derived.Test.YtnpgjcapekopnaaGreatSkG
namespace Go.Proofs.YtnpgjcapekopnaaGreat.KP
open Go.RowKit CP TP
open CM (Mg Cm)
open TM (Sp)
open KM (Wt Sk)
set_option linter.unusedVariables false
set_option linter.unusedSimpArgs false
set_option maxRecDepth 100000

set_option maxHeartbeats 8000000 in
theorem rwithout_any (b : Nat) (A : Option Addr) (n c : Nat) (l : List Wt) (j : Nat) (w : World) (h : KG KW w b A n c l) (hn : n ≤ 4000) (hb : b ≤ w.heap.size) :
    Calls Tryz.prog 59 #[.slice A n c, .int .i64 (j : Int)] w (WtsNew b (l.eraseIdx j) w) := by
  obtain ⟨j0, hj, hy0, hy1, hy2⟩ := info_parts info_wt
  have HLA := Lib.hid h.r.len
  have hn63 := h.r.small
  have H0 := Lib.hid h
  have HB := Lib.hid (Below.refl w.heap.size w)
  obtain ⟨w1, hw1⟩ : ∃ w1, w1 = w := ⟨_, rfl⟩
  have hbw1 : b ≤ w1.heap.size := by rw [hw1]; exact hb
  have hww1 : w.heap.size ≤ w1.heap.size := by rw [hw1]; exact Nat.le_refl _
  have HW := Lib.hid hw1
  rw [← hw1]
  rw [← hw1] at HB H0
  clear h hw1
  go_enter Tryz.func59, Tryz.ntmps59
  go_wp2_with fail
  go_loopw [5, 6] (fun s i wr => ∃ k : Nat, ∃ A9 n9 c9, k ≤ n ∧ s = .slice A9 n9 c9 ∧ i = .int .i64 k ∧ Below w1.heap.size w1 wr ∧ Hid (Grow w1.heap.size b A9 n9 c9 ((l.take k).eraseIdx j) wr)) (fun _ i _ => n - (intOf i).toNat)
  case atStart => exact ⟨0, none, 0, 0, by omega, rfl, rfl, Below.refl _ _, Lib.hid (by simpa using grow_nil w1.heap.size b w1)⟩
  case round =>
    obtain ⟨k, A9, n9, c9, hk, rfl, rfl, hB, HG⟩ := hrel
    have HB2 := Lib.hid (bmore HB.out hB (Nat.le_refl _))
    have HBr := Lib.hid hB
    clear hB
    have hn9 : n9 ≤ 4096 := by
      have h1 := HG.out.len
      have h2 := List.length_eraseIdx_le (l.take k) j
      rw [List.length_take] at h2
      omega
    by_cases hlt : k < n
    · obtain ⟨a, ha⟩ : ∃ a, l[k]? = some a := ⟨_, List.getElem?_eq_getElem (by have := HLA.out; omega)⟩
      have HA := Lib.hid ha
      obtain ⟨bl, o, P, q, rfl, _, hbl, hat, hrow⟩ := wtsG_at H0.out ha
      have HRW := Lib.hid (And.intro hrow (fun ad (e : P = some ad) hn => row_lt hrow.1 e hn))
      have HAT := Lib.hid (fun W (hb : Below wr.heap.size wr W) => hat.below hbl (bmore HB2.out hb (Nat.le_refl _)))
      obtain ⟨a0, a1, a2, a3, a4, a5, a6⟩ := HAT.out _ (Below.refl _ _)
      clear ha hat hrow hbl
      have hk0 : (0 : Int) ≤ (k : Int) := by omega
      have hkn : (k : Int) < (n : Int) := by omega
      have HP1 := Lib.hid (erase_take (j := j) HA.out)
      by_cases hc : k = j
      · have HN := Lib.hid (show Grow w1.heap.size b A9 n9 c9 ((l.take (k + 1)).eraseIdx j) wr by rw [HP1.out, if_pos hc]; exact HG.out)
        have e1 : ((k : Int) != (j : Int)) = false := by simp; omega
        clear hc
        go_wp2_with fail
        go_roundw
        case rel => exact ⟨k + 1, A9, n9, c9, by omega, rfl, by go_num, HBr.out, HN⟩
        case measure => simp [intOf]; omega
      · have HP := Lib.hid (show (l.take (k + 1)).eraseIdx j = (l.take k).eraseIdx j ++ [a] by rw [HP1.out, if_neg hc])
        have e1 : ((k : Int) != (j : Int)) = true := by simp; omega
        clear hc
        have HRW3 := Lib.hid (HRW.out.1.below HB2.out)
        have HNE3 := Lib.hid (show ∀ ad, P = some ad → 0 < (KW.gs a).length → (Value.slice A9 n9 c9).ownBlock ≠ some ad.block from fun ad e hn kk => by have h1 := HG.out.2 _ kk; have h2 := HRW.out.2 ad e hn; omega)
        have HBS3 := Lib.hid (show b ≤ wr.heap.size from Nat.le_trans hbw1 HBr.out.size)
        obtain ⟨⟨ai, ag, at_, ak, ab⟩, am, af⟩ := a
        simp only at a0 a1 a2 a3 a4 a5 a6
        go_wp2_with (at_builtin; refine wpList_append_ko rfl _ _ 22 rfl 52 j0 _ 88 Tryz.underlying22 hj hy0 hy1 hy2 rfl rfl (HG.out).1 rfl #[.int .i64 ai, .slice P ag.length q, .int .i64 at_, .string ak, .string ab, .int .i64 am, .bool af] (show _ = KW.cel P q ⟨⟨ai, ag, at_, ak, ab⟩, am, af⟩ from rfl) (HRW3.out) (HNE3.out) (by unfold maxLen; omega) (by omega) HBS3.out ?_; intro A7 c7 w6 hko hgr hob; have HKO := Lib.hid hko; have HGR := Lib.hid hgr; have HOB := Lib.hid hob; clear hko hgr hob)
        obtain ⟨hn1, hn2⟩ := grow_step HG.out (show w1.heap.size ≤ wr.heap.size from HBr.out.size) hbw1 HKO.out HGR.out HOB.out
        rw [← HP.out] at hn1
        have HN1 := Lib.hid hn1
        have HN2 := Lib.hid (HBr.out.trans hn2)
        clear hn1 hn2
        go_roundw
        case rel => exact ⟨k + 1, A7, n9 + 1, c7, by omega, rfl, by go_num, HN2.out, HN1⟩
        case measure => simp [intOf]; omega
    · have HF := Lib.hid (show Grow w1.heap.size b A9 n9 c9 (l.eraseIdx j) wr by
        have := HG.out
        rwa [List.take_of_length_le (by have := HLA.out; omega)] at this)
      go_wp2_with fail
      go_ret
      exact ⟨A9, n9, c9, rfl, HF.out.1, HB2.out⟩
end Go.Proofs.YtnpgjcapekopnaaGreat.KP
