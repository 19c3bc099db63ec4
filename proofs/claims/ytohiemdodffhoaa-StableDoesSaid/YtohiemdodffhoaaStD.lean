/-
  What the document's own Vote and New of layer 11 answer (towncrierref11). Conditions: the slice reads as votes.
-/
import Derived.Test.YtohiemdodffhoaaStMem
import Derived.Test.YtohiemdodffhoaaProg
import Derived.Deep.QuietTactic
import Derived.BigQuiet
import Derived.Deep.DeepCutAuto
namespace Go.Proofs.Ytohiemdodffhoaa.SP
open Go.RowKit
open SM (Sn Sb Vo)
set_option linter.unusedVariables false
set_option linter.unusedSimpArgs false
set_option maxRecDepth 100000

theorem find_drop {l : List Sn} {k : Nat} {x : Sn} (h : l[k]? = some x) (g s : Int) : SM.find (l.drop k) g s = if x.g = g ∧ x.s = s then x.o else SM.find (l.drop (k + 1)) g s := by
  obtain ⟨hk, rfl⟩ := List.getElem?_eq_some_iff.1 h
  rw [List.drop_eq_getElem_cons hk, SM.find]
set_option maxHeartbeats 4000000 in
theorem rvote_any (B : Option Addr) (m d : Nat) (l : List Sn) (g s : Int) (w : World) (h : VotesIs w B m d l) :
    Calls Try.prog 40 #[.slice B m d, .int .i64 g, .int .i64 s] w fun e w' =>
      e = .returned (.agg #[.int .i64 (SM.find l g s).p, .int .i64 (SM.find l g s).b, .string (SM.find l g s).v]) ∧ Below w.heap.size w w' := by
  obtain ⟨h1, hl, hmd, hm, hf⟩ := h
  unfold maxLen at hm
  have HL := Lib.hid hl
  have hb : Below w.heap.size w (w.alloc (.cells #[.int .i64 0, .int .i64 0, .string ⟨#[]⟩] 48)) := (Below.refl _ _).alloc (Nat.le_refl _) _
  have HB := Lib.hid hb
  have X := Lib.hid (Box.new w 48 #[.int .i64 0, .int .i64 0, .string ⟨#[]⟩])
  have H1 := Lib.hid (h1.below hb)
  have HF := Lib.hid hf
  obtain ⟨o, ho⟩ : ∃ o, o = SM.find l g s := ⟨_, rfl⟩
  rw [← ho]
  have HO := Lib.hid ho
  clear h1 hl hb hf ho
  go_enter Try.func40, Try.ntmps40
  go_upto_region 1 with (fail)
  generalize w.alloc (.cells #[.int .i64 0, .int .i64 0, .string ⟨#[]⟩] 48) = w1 at HB X H1 ⊢
  obtain ⟨c0, c1, c2, f0, f1, f2⟩ := X.out.three
  go_wp2_with fail
  go_loop [7] (fun i => ∃ k : Nat, k ≤ m ∧ i = .int .i64 k ∧ Hid (o = SM.find (l.drop k) g s)) (fun i => m - (intOf i).toNat)
  case atStart => exact ⟨0, Nat.zero_le _, rfl, HO⟩
  case round =>
    obtain ⟨k, hk, rfl, HK⟩ := hrel
    by_cases hlt : k < m
    · obtain ⟨bl, oo, rfl⟩ := HF.out (by omega)
      obtain ⟨x, hx⟩ : ∃ x, l[k]? = some x := ⟨_, List.getElem?_eq_getElem (by have := HL.out; omega)⟩
      obtain ⟨a0, a1, a2, a3, a4⟩ := rdg_sn H1.out hx
      have HE := Lib.hid (find_drop hx g s)
      clear hx
      have hk0 : (0 : Int) ≤ (k : Int) := by omega
      have hkm : (k : Int) < (m : Int) := by omega
      by_cases h2 : x.g = g
      · by_cases h3 : x.s = s
        · obtain rfl : o = x.o := by rw [HK.out, HE.out, if_pos ⟨h2, h3⟩]
          have e2 : (x.g == g) = true := by simpa using h2
          have e3 : (x.s == s) = true := by simpa using h3
          clear h2 h3
          go_wp2_with fail
          exact bodyPost_ret (v := .agg #[.int .i64 x.o.p, .int .i64 x.o.b, .string x.o.v]) (by simp [results, Try.results40, go_sem, c0, c1, c2]; try rfl) rfl ⟨rfl, below_put3 HB.out (Nat.le_refl _) _ _ _⟩
        · have e2 : (x.g == g) = true := by simpa using h2
          have e3 : (x.s == s) = false := by simpa using h3
          have HN := Lib.hid (show o = SM.find (l.drop (k + 1)) g s by rw [HK.out, HE.out, if_neg (fun h => h3 h.2)])
          clear h2 h3
          go_wp2_with fail
          go_round
          case rel => exact ⟨k + 1, by omega, by go_num, HN⟩
          case measure => simp [intOf]; omega
      · have e2 : (x.g == g) = false := by simpa using h2
        have HN := Lib.hid (show o = SM.find (l.drop (k + 1)) g s by rw [HK.out, HE.out, if_neg (fun h => h2 h.1)])
        clear h2
        go_wp2_with fail
        go_round
        case rel => exact ⟨k + 1, by omega, by go_num, HN⟩
        case measure => simp [intOf]; omega
    · obtain rfl : o = SM.vz := by rw [HK.out, List.drop_of_length_le (by have := HL.out; omega)]; rfl
      go_wp2_with fail
      exact bodyPost_ret (v := .agg #[.int .i64 0, .int .i64 0, .string ⟨#[]⟩]) (by simp [results, Try.results40, go_sem, c0, c1, c2]; try rfl) rfl ⟨rfl, below_put3 HB.out (Nat.le_refl _) _ _ _⟩
end Go.Proofs.Ytohiemdodffhoaa.SP
