/-
  What num.Text and num.GetText do, for every text and whatever bytes. Conditions: the slice reads as bytes.
-/
import Derived.Test.YtohiemdodffhoaaNumA
import Derived.Test.YtohiemdodffhoaaNumG
namespace Go.Proofs.Ytohiemdodffhoaa
open Go.RowKit
set_option linter.unusedVariables false
set_option maxRecDepth 100000

theorem text_len (s : ByteArray) : s.data.toList.length = s.size := by rw [Array.length_toList]; rfl

set_option maxHeartbeats 400000 in
theorem text_ok (s : ByteArray) (w : World) (hs : s.size ≤ 4096) :
    Calls Try.prog 66 #[.string s] w fun e w' => ∃ v, e = .returned (.tuple #[v, .int .i64 0]) ∧ w'.ownsRow w.heap.size 5 1 v (NM.text s.data.toList).length (bc (NM.text s.data.toList)) ∧ Below w.heap.size w w' := by
  obtain ⟨i0, hi, hz0, hz1, hz2⟩ := info_parts info_u8
  have hl := NM.enc_le s.size
  go_enter Try.func66, Try.ntmps66
  go_wp2_with (first
    | (go_at_call 90; refine (appendNumber_any w.heap.size _ 0 [] s.size _ (by omega) (by omega) (World.ownsRow_nil _ _ _ _) (Nat.le_refl _)).mono ?_; rintro e w1 ⟨v1, rfl, hown, hg, hob⟩; simp only [Nat.zero_add, List.nil_append] at hown)
    | (at_builtin; refine Lib.wpList_append_own_string _ rfl _ _ 94 9 rfl w.heap.size 5 i0 Try.underlying94 Try.underlying9 hi hz0 hz1 hz2 _ _ _ rfl hown s rfl (by unfold maxLen; omega) (by omega) hg.size ?_; intro v2 w2 hown2 hg2 _))
  go_ret2
  have hb := below_of_grown hg (by simp [Value.ownBlock])
  refine ⟨v2, rfl, ?_, ?_⟩
  · rw [bc_str, ← bc_append] at hown2
    unfold NM.text
    rw [List.length_append, text_len]
    exact hown2
  · exact hb.grown hg2 hb.size (fun k hk => by
      rcases hob with e | e
      · have hk' : v1.ownBlock = some k := hk
        rw [e] at hk'; simp [Value.ownBlock] at hk'
      · exact e k hk)
theorem text_no (s : ByteArray) (w : World) (hs : 4096 < s.size) :
    Calls Try.prog 66 #[.string s] w fun e w' => e = .returned (.tuple #[.slice none 0 0, .int .i64 3]) ∧ w = w' := by
  go_enter Try.func66, Try.ntmps66
  go_wp2
  go_ret2
  exact ⟨rfl, rfl⟩

def textRes : Option (List UInt8 × Nat) → Value
  | none => .tuple #[.string ⟨#[]⟩, .int .i64 0, .int .i64 8]
  | some (t, k) => .tuple #[.string ⟨t.toArray⟩, .int .i64 k, .int .i64 0]

set_option maxHeartbeats 1000000 in
theorem getText_any (A : Option Addr) (n c : Nat) (l : List UInt8) (w : World) (hr : Rd w A n (bc l)) (hnc : n ≤ c) (hm : c ≤ maxLen) :
    Calls Try.prog 88 #[.slice A n c] w fun e w' => e = .returned (textRes (NM.getText l)) ∧ w = w' := by
  have hg := get_any A n c l w hr (Nat.le_trans hnc hm)
  unfold maxLen at hm
  have hl : l.length = n := by have := hr.1; rwa [bc_length] at this
  have HL := Lib.hid hl; clear hl
  rcases hd : NM.dec l with _ | ⟨x, k⟩
  · rw [hd] at hg
    have hfin : NM.getText l = none := by unfold NM.getText; rw [hd]
    have HF := Lib.hid hfin; clear hfin hd
    have HG := Lib.hid hg; clear hg
    go_enter Try.func88, Try.ntmps88
    go_wp2_with (go_at_call 87; refine (HG.out).mono ?_; rintro e w' ⟨rfl, rfl⟩; unfold getRes)
    go_ret3
    rw [HF.out]
    exact ⟨rfl, rfl⟩
  · have hb := NM.dec_bound l x k hd
    rw [hd] at hg
    obtain ⟨hx, hk1, hkl, hk6, _⟩ := hb
    rw [HL.out] at hkl
    have hfin : NM.getText l = if x ≤ 4096 ∧ x ≤ n - k then some ((l.drop k).take x, k + x) else none := by unfold NM.getText; rw [hd]; simp only [HL.out]
    have HF := Lib.hid hfin; clear hfin hd
    have HG := Lib.hid hg; clear hg
    by_cases h1 : x ≤ 4096
    · by_cases h2 : x ≤ n - k
      · have hkx : k + x ≤ n := by omega
        have hc1 : ∀ cap, (convert 94 9 (.slice (Option.map (fun x => x.add k) A) x cap)).run Try.prog w = .ok (.string ⟨((l.drop k).take x).toArray⟩) w := fun cap =>
          run_string_of w _ _ 5 _ _ cap ((l.drop k).take x) Try.underlying94 Try.underlying5 Try.underlying9 (by rw [← bc_take, ← bc_drop]; exact hr.mid hkx)
        obtain ⟨t, ht⟩ : ∃ t, t = (l.drop k).take x := ⟨_, rfl⟩
        rw [← ht] at hc1
        have HT := Lib.hid ht; clear ht
        have HR := Lib.hid hr; clear hr
        by_cases hck : c = k
        · obtain rfl : x = 0 := by omega
          have hc2 : ∀ cap, (convert 94 9 (.slice A 0 cap)).run Try.prog w = .ok (.string ⟨t.toArray⟩) w := fun cap =>
            run_string_of w _ _ 5 _ _ cap t Try.underlying94 Try.underlying5 Try.underlying9 (by rw [HT.out]; simpa [bc] using Rd.nil)
          subst hck
          go_enter Try.func88, Try.ntmps88
          go_wp2_with (go_at_call 87; refine (HG.out).mono ?_; rintro e w' ⟨rfl, rfl⟩; unfold getRes)
          go_ret3
          rw [HF.out, if_pos (by omega), HT.out]
          exact ⟨rfl, rfl⟩
        · go_enter Try.func88, Try.ntmps88
          go_wp2_with (go_at_call 87; refine (HG.out).mono ?_; rintro e w' ⟨rfl, rfl⟩; unfold getRes)
          go_ret3
          rw [HF.out, if_pos (by omega), HT.out]
          exact ⟨rfl, rfl⟩
      · have h2' : (n : Int) - k < x := by omega
        go_enter Try.func88, Try.ntmps88
        go_wp2_with (go_at_call 87; refine (HG.out).mono ?_; rintro e w' ⟨rfl, rfl⟩; unfold getRes)
        go_ret3
        rw [HF.out, if_neg (by omega)]
        exact ⟨rfl, rfl⟩
    · go_enter Try.func88, Try.ntmps88
      go_wp2_with (go_at_call 87; refine (HG.out).mono ?_; rintro e w' ⟨rfl, rfl⟩; unfold getRes)
      go_ret3
      rw [HF.out, if_neg (by omega)]
      exact ⟨rfl, rfl⟩
end Go.Proofs.Ytohiemdodffhoaa
