/-
  What num.Ints and num.GetInts do, for every list and whatever bytes. Conditions: the slices read as numbers, as bytes.
-/
import Derived.Test.YtffikjepeoeimaaNumA
import Derived.Test.YtffikjepeoeimaaNumG
namespace Go.Proofs.Ytffikjepeoeimaa
open Go.RowKit
set_option linter.unusedVariables false

/-- all of them may be written -/
def okAll (zs : List Int) : Prop := ∀ z ∈ zs, 0 ≤ z ∧ z ≤ 1099511627776
def nats (zs : List Int) : List Nat := zs.map Int.toNat
theorem nats_length (zs : List Int) : (nats zs).length = zs.length := by simp [nats]
theorem nats_take (zs : List Int) (k : Nat) (h : k < zs.length) : nats (zs.take (k + 1)) = nats (zs.take k) ++ [zs[k].toNat] := by
  unfold nats
  rw [List.take_succ_eq_append_getElem h, List.map_append]; rfl
theorem okAll_take (zs : List Int) (k : Nat) (h : k < zs.length) (h1 : okAll (zs.take k)) (h2 : 0 ≤ zs[k] ∧ zs[k] ≤ 1099511627776) : okAll (zs.take (k + 1)) := by
  intro z hz
  rw [List.take_succ_eq_append_getElem h, List.mem_append] at hz
  rcases hz with hz | hz
  · exact h1 z hz
  · simp at hz; subst hz; exact h2
/-- what is said of a list that is written -/
def IntsPost (w : World) (zs : List Int) (e : Ending) (w' : World) : Prop :=
  Below w.heap.size w w' ∧ ((okAll zs ∧ ∃ v, e = .returned (.tuple #[v, .int .i64 0]) ∧ w'.ownsRow w.heap.size 5 1 v (NM.ints (nats zs)).length (bc (NM.ints (nats zs)))) ∨
    (¬ okAll zs ∧ e = .returned (.tuple #[.slice none 0 0, .int .i64 2])))

/-- the loop's word: of the first k numbers the bytes stand there -/
def IntsRel (w : World) (zs : List Int) (k : Nat) (u : Value) (wr : World) : Prop :=
  okAll (zs.take k) ∧ wr.ownsRow w.heap.size 5 1 u (NM.enc zs.length ++ NM.body (nats (zs.take k))).length (bc (NM.enc zs.length ++ NM.body (nats (zs.take k)))) ∧ Below w.heap.size w wr
theorem intsRel_next {w wr w2 : World} {zs : List Int} {k x : Nat} {u v : Value} (hk : k < zs.length) (h : IntsRel w zs k u wr) (hx : zs[k] = (x : Int)) (hx2 : x ≤ 1099511627776)
    (ho : w2.ownsRow w.heap.size 5 1 v ((NM.enc zs.length ++ NM.body (nats (zs.take k))).length + (NM.enc x).length) (bc (NM.enc zs.length ++ NM.body (nats (zs.take k))) ++ bc (NM.enc x)))
    (hg : wr.grownBy w2 u.ownBlock) : IntsRel w zs (k + 1) v w2 := by
  obtain ⟨h1, h2, h3⟩ := h
  refine ⟨okAll_take zs k hk h1 (by rw [hx]; omega), ?_, ?_⟩
  · rw [nats_take zs k hk, NM.body_snoc, hx, Int.toNat_natCast, ← List.append_assoc, bc_append (NM.enc zs.length ++ _), List.length_append (bs := NM.enc x)]
    exact ho
  · refine h3.grown hg h3.size fun g hgu => ?_
    rcases h2.2 with ⟨rfl, _⟩ | ⟨g', cap, cur, rfl, hb, _⟩
    · simp [Value.ownBlock] at hgu
    · simp [Value.ownBlock] at hgu; omega

theorem intsRel_below {w wr w2 : World} {zs : List Int} {k : Nat} {u : Value} (h : IntsRel w zs k u wr) (hb : Below wr.heap.size wr w2) : IntsRel w zs k u w2 :=
  ⟨h.1, own_below h.2.1 hb, bmore h.2.2 hb (Nat.le_refl _)⟩

set_option maxHeartbeats 1000000 in
theorem ints_any (A : Option Addr) (n c : Nat) (zs : List Int) (w : World) (hr : Rd w A n (ic zs)) (hn : n ≤ 4096) :
    Calls Try.prog 12 #[.slice A n c] w (IntsPost w zs) := by
  have hl : zs.length = n := by have := hr.1; rwa [ic_length] at this
  have HL := Lib.hid hl
  go_enter Try.func12, Try.ntmps12
  go_wp2_with (go_at_call 24; refine (appendNumber_any w.heap.size _ 0 [] n _ (by omega) (by omega) (World.ownsRow_nil _ _ _ _) (Nat.le_refl _)).mono ?_; rintro e w1 ⟨v1, rfl, hown, hg, hob⟩)
  have hstart : IntsRel w zs 0 v1 w1 := ⟨by intro z hz; simp at hz, by simpa [nats, NM.body, hl] using hown, below_of_grown hg (by simp [Value.ownBlock])⟩
  clear hown hg hob hl
  go_loopw [4, 15] (fun u i wr => ∃ k : Nat, k ≤ n ∧ i = .int .i64 k ∧ IntsRel w zs k u wr) (fun _ i _ => n - (intOf i).toNat)
  case atStart => exact ⟨0, by omega, rfl, hstart⟩
  case round =>
    clear hstart
    obtain ⟨k, hk, rfl, hrel⟩ := hrel
    by_cases hlt : k < n
    · have hkl : k < zs.length := by have := HL.out; omega
      obtain ⟨ad, u, rfl, _, hu, hcell⟩ := (hr.below hrel.2.2).at_ hlt
      rw [ic_get zs k hkl] at hu
      injection hu with hu
      subst hu
      obtain ⟨z, hz⟩ : ∃ z, z = zs[k] := ⟨_, rfl⟩
      rw [← hz] at hcell
      have HZ := Lib.hid hz; clear hz
      by_cases hin : 0 ≤ z ∧ z ≤ 1099511627776
      · obtain ⟨x, rfl⟩ := Int.eq_ofNat_of_zero_le hin.1
        have hx2 : x ≤ 1099511627776 := by omega
        have hle := NM.body_le (nats (zs.take k))
        rw [nats_length, List.length_take] at hle
        have hen := NM.enc_le zs.length
        have hlen : (NM.enc zs.length ++ NM.body (nats (zs.take k))).length ≤ 1000000 := by rw [List.length_append]; omega
        have HR := Lib.hid hrel; clear hrel
        clear hle hen
        have HI := Lib.hid hlen; clear hlen
        go_wp2_with (first
          | (go_at_call 23; refine (may_any _ _ hin).mono ?_; rintro e w' ⟨rfl, rfl⟩)
          | (go_at_call 24; refine (appendNumber_any w.heap.size _ _ _ x _ hx2 HI.out HR.out.2.1 HR.out.2.2.size).mono ?_; rintro e w1 ⟨v1, rfl, hown, hg, hob⟩))
        have hnext := intsRel_next hkl HR.out HZ.out.symm hx2 hown hg
        clear hown hg hob
        go_roundw
        case rel => exact ⟨k + 1, by omega, by go_num, hnext⟩
        case measure => simp [intOf]; omega
      · have hb := hrel.2.2
        have HR := Lib.hid hrel; clear hrel
        go_wp2_with (go_at_call 23; refine (may_not _ _ hin).mono ?_; rintro e w' ⟨rfl, rfl⟩)
        go_ret2
        exact ⟨hb, .inr ⟨fun h => hin (by have := h zs[k] (List.getElem_mem hkl); rw [HZ.out]; exact this), rfl⟩⟩
    · obtain ⟨h1, h2, h3⟩ := hrel
      rw [List.take_of_length_le (by have := HL.out; omega)] at h1 h2
      go_wp2
      go_ret2
      refine ⟨h3, .inl ⟨h1, _, rfl, ?_⟩⟩
      unfold NM.ints
      rw [nats_length]
      exact h2
theorem ints_many (A : Option Addr) (n c : Nat) (w : World) (hn : 4096 < n) (hm : n ≤ maxLen) :
    Calls Try.prog 12 #[.slice A n c] w fun e w' => e = .returned (.tuple #[.slice none 0 0, .int .i64 4]) ∧ w = w' := by
  unfold maxLen at hm
  go_enter Try.func12, Try.ntmps12
  go_wp2
  go_ret2
  exact ⟨rfl, rfl⟩
end Go.Proofs.Ytffikjepeoeimaa
