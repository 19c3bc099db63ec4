/-
  What 'one', 'alive' and 'joined' of the statements of layer 4 answer: the chapter's disk, true, two lists one behind the other. Conditions: none; the slices read as texts.
-/
import Derived.Test.YtkdnkaiknmcfmaaWalD
import Derived.Test.YtkdnkaiknmcfmaaFrameT
namespace Go.Proofs.Ytkdnkaiknmcfmaa
open Go.RowKit
set_option linter.unusedVariables false

def OnePost (w : World) (e : Ending) (w' : World) : Prop := ∃ A, e = .returned (.agg #[.slice A 2 2, .slice none 0 0]) ∧ DiskIs w' (.agg #[.slice A 2 2, .slice none 0 0]) [1, 97] [] ∧ Below w.heap.size w w'
set_option maxRecDepth 100000 in
set_option maxHeartbeats 2000000 in
theorem one_any (w : World) : Calls Try.prog 8 #[] w (OnePost w) := by
  have hb0 : Below w.heap.size w ((w.alloc (.cells #[.slice (some ⟨w.heap.size + 1, 0, none⟩) 2 2, .slice none 0 0] 25)).alloc (.cells #[.int .u8 1, .int .u8 97] 5)) := ((Below.refl _ _).alloc (Nat.le_refl _) _).alloc (by simp) _
  have x0 : Box ((w.alloc (.cells #[.slice (some ⟨w.heap.size + 1, 0, none⟩) 2 2, .slice none 0 0] 25)).alloc (.cells #[.int .u8 1, .int .u8 97] 5)) (w.heap.size + 1) 5 #[.int .u8 1, .int .u8 97] := Box.new_at _ (by simp)
  have hfin : OnePost w (.returned (.agg #[.slice (some ⟨w.heap.size + 1, 0, none⟩) 2 2, .slice none 0 0])) ((w.alloc (.cells #[.slice (some ⟨w.heap.size + 1, 0, none⟩) 2 2, .slice none 0 0] 25)).alloc (.cells #[.int .u8 1, .int .u8 97] 5)) := ⟨_, rfl, disk_lit (c := 2) (rd_box (xs := bc [1, 97]) x0 rfl rfl) (Nat.le_refl _) (by unfold maxLen; omega), hb0⟩
  have HF := Lib.hid hfin
  clear hfin hb0 x0
  go_enter Try.func8, Try.ntmps8
  go_wp2_with fail
  exact bodyPost_ret (v := .agg #[.slice (some ⟨w.heap.size + 1, 0, none⟩) 2 2, .slice none 0 0]) (by simp [results, Try.results8, go_sem]) rfl HF.out

theorem alive_1 : AddIs [1, 97] [] [[98, 99]] [1, 97] [(false, [2, 98, 99])] 0 := .inr (.inr (.inr (.inr ⟨by decide, by decide, by decide, by decide, .inl ⟨by decide, rfl, by decide, rfl⟩⟩)))
theorem alive_2 : OpenIs [1, 97] [(false, [2, 98, 99])] [1, 97] [(false, [2, 98, 99])] [[97], [98, 99]] 0 := .inr (.inl ⟨by decide, by decide, rfl, rfl, by decide, rfl⟩)

set_option maxRecDepth 100000 in
set_option maxHeartbeats 4000000 in
theorem alive_any (w : World) : Calls Try.prog 12 #[] w fun e w' => e = .returned (.bool true) ∧ Below w.heap.size w w' := by
  go_enter Try.func12, Try.ntmps12
  go_wp2_with fail
  refine (one_any w).mono ?_
  rintro e w1 ⟨A1, rfl, hd1, hb1⟩
  have hba : Below w1.heap.size w1 (w1.alloc (.cells #[.string ⟨#[98, 99]⟩] 9)) := (Below.refl _ _).alloc (Nat.le_refl _) _
  have HV := Lib.hid (hd1.below hba)
  have HR := Lib.hid (show Rd (w1.alloc (.cells #[.string ⟨#[98, 99]⟩] 9)) (some ⟨w1.heap.size, 0, none⟩) 1 (sc [[98, 99]]) from rd_new _ _ _)
  have HB := Lib.hid (bmore hb1 hba (Nat.le_refl _))
  clear hd1 hb1 hba
  go_wp2_with fail
  generalize w1.alloc (.cells #[.string ⟨#[98, 99]⟩] 9) = u1 at HV HR HB ⊢
  generalize w1.heap.size = g1 at HR ⊢
  refine (add_any _ _ 1 1 [1, 97] _ [] _ [[98, 99]] 0 2 1 _ HV HR (Lib.hid (by decide)) (by omega) (Lib.hid alive_1) (Lib.hid rfl) (Lib.hid rfl)).mono ?_
  rintro e w2 ⟨A2, c2, B2, d2, rfl, hown, hb⟩
  obtain ⟨hst, v2⟩ := var_step hb hown
  have V2 := Lib.hid v2
  have HB2 := Lib.hid (bmore HB.out hst (Nat.le_refl _))
  clear hown hb hst v2 HB HV HR
  have k0 := V2.out.c0
  have k1 := V2.out.c1
  go_wp2_with fail
  clear k0 k1
  generalize w2.alloc (.cells #[.slice A2 2 c2, .slice B2 1 d2] 25) = u2 at V2 HB2 ⊢
  generalize w2.heap.size = g2 at V2 ⊢
  refine (open_any _ [1, 97] _ [(false, [2, 98, 99])] _ [[97], [98, 99]] 0 2 1 2 _ (Lib.hid V2.out.2) (Lib.hid alive_2) (Lib.hid rfl) (Lib.hid rfl) (Lib.hid rfl)).mono ?_
  rintro e w3 ⟨A3, c3, B3, d3, C3, e3, rfl, hown, hr, l1, l2, hb⟩
  have hba : Below w3.heap.size w3 ((w3.alloc (.cells #[.slice A3 2 c3, .slice B3 1 d3] 25)).alloc (.cells #[.string ⟨#[97]⟩, .string ⟨#[98, 99]⟩] 9)) := ((Below.refl _ _).alloc (Nat.le_refl _) _).alloc (by simp) _
  have HR3 := Lib.hid (hr.below hba)
  have HQ3 := Lib.hid (rd_box (xs := sc [[97], [98, 99]]) (Box.new (w3.alloc (.cells #[.slice A3 2 c3, .slice B3 1 d3] 25)) 9 #[.string ⟨#[97]⟩, .string ⟨#[98, 99]⟩]) rfl rfl)
  have HB3 := Lib.hid (bmore (bmore HB2.out hb (Nat.le_refl _)) hba (Nat.le_refl _))
  have hsz : (w3.alloc (.cells #[.slice A3 2 c3, .slice B3 1 d3] 25)).heap.size = w3.heap.size + 1 := by simp
  rw [hsz] at HQ3
  clear hown hr l2 hb hba HB2 V2 hsz
  go_wp2_with fail
  generalize (w3.alloc (.cells #[.slice A3 2 c3, .slice B3 1 d3] 25)).alloc (.cells #[.string ⟨#[97]⟩, .string ⟨#[98, 99]⟩] 9) = u3 at HR3 HQ3 HB3 ⊢
  generalize w3.heap.size + 1 = g3 at HQ3 ⊢
  refine (same_texts C3 _ 2 e3 2 [[97], [98, 99]] _ HR3.out HQ3.out (by omega)).mono ?_
  rintro e w4 ⟨rfl, q, rfl⟩
  have hB4 := below_drewN HB3.out q
  have HB4 := Lib.hid hB4
  clear hB4
  go_wp2
  go_ret
  exact ⟨rfl, HB4.out⟩

def JoAns (w : World) (ls : List (List UInt8)) (n : Nat) (e : Ending) (w' : World) : Prop := ∃ A c, e = .returned (.slice A n c) ∧ Rd w' A n (sc ls) ∧ n ≤ c ∧ c ≤ maxLen ∧ Below w.heap.size w w'
set_option maxRecDepth 100000 in
set_option maxHeartbeats 4000000 in
theorem joined_any (A B : Option Addr) (n m ca cb : Nat) (ls rs : List (List UInt8)) (w : World) (HA : Hid (Rd w A n (sc ls))) (HB : Hid (Rd w B m (sc rs))) (hn : n ≤ 2000000) (hm : m ≤ 2000000) :
    Calls Try.prog 22 #[.slice A n ca, .slice B m cb] w (JoAns w (ls ++ rs) (n + m)) := by
  obtain ⟨i0, hi, hz0, hz1, hz2⟩ := info_parts info_str
  go_enter Try.func22, Try.ntmps22
  go_wp2_with (first
    | (at_builtin; refine wpList_append_rd _ rfl _ _ 30 rfl w.heap.size 9 i0 (.string ByteArray.empty) 16 Try.underlying30 hi hz0 hz1 hz2 rfl (.slice none 0 0) 0 [] rfl (World.ownsRow_nil _ _ _ _) A n ca (sc ls) rfl HA.out (sc_one ls) (by unfold maxLen; omega) (by omega) (Nat.le_refl _) ?_; intro v2 w2 hown2 hg2 hob2; simp only [Nat.zero_add, List.nil_append] at hown2; obtain ⟨A2, c2, hv2, _, _⟩ := own_slice hown2; subst hv2; have hb2 := below_of_grown hg2 (by simp [Value.ownBlock]); have hs2 := hb2.size)
    | (at_builtin; refine wpList_append_rd _ rfl _ _ 30 rfl w.heap.size 9 i0 (.string ByteArray.empty) 16 Try.underlying30 hi hz0 hz1 hz2 rfl (.slice A2 n c2) n (sc ls) rfl hown2 B m cb (sc rs) rfl (HB.out.below hb2) (sc_one rs) (by unfold maxLen; omega) (by omega) hs2 ?_; intro v3 w3 hown3 hg3 hob3))
  go_ret
  obtain ⟨A3, c3, rfl, l1, l2⟩ := own_slice hown3
  rw [← sc_append] at hown3
  exact ⟨A3, c3, rfl, Rd.of_own hown3, l1, l2, hb2.grown hg3 hs2 (own_block_ge hown2)⟩
end Go.Proofs.Ytkdnkaiknmcfmaa
