/-
  What num.GetInts does, for whatever bytes and bound. Conditions: the slice reads as bytes.
-/
import Derived.Test.YtffikjepeoeimaaNumG
import Derived.Test.YtffikjepeoeimaaNumA
namespace Go.Proofs.Ytffikjepeoeimaa
open Go.RowKit
set_option linter.unusedVariables false

def intsOf (xs : List Nat) : List Int := xs.map Int.ofNat
theorem intsOf_length (xs : List Nat) : (intsOf xs).length = xs.length := by simp [intsOf]
theorem intsOf_snoc (xs : List Nat) (x : Nat) : intsOf (xs ++ [x]) = intsOf xs ++ [(x : Int)] := by simp [intsOf]

/-- what is said of a list that is read -/
def GetIntsPost (w : World) (o : Option (List Nat × Nat)) (e : Ending) (w' : World) : Prop :=
  Below w.heap.size w w' ∧ ((o = none ∧ e = .returned (.tuple #[.slice none 0 0, .int .i64 0, .int .i64 8])) ∨
    ∃ xs k v, o = some (xs, k) ∧ e = .returned (.tuple #[v, .int .i64 (k : Int), .int .i64 0]) ∧ w'.ownsRow w.heap.size 3 1 v xs.length (ic (intsOf xs)))

/-- the loop's word -/
def GetIntsAt (w : World) (l : List UInt8) (o : Option (List Nat × Nat)) (m n i at_ : Nat) (u : Value) (wr : World) (pre : List Nat) : Prop :=
  pre.length = i ∧ i ≤ m ∧ at_ ≤ n ∧ NM.liftB pre at_ (NM.getBody (m - i) (l.drop at_)) = o ∧ wr.ownsRow w.heap.size 3 1 u i (ic (intsOf pre)) ∧ Below w.heap.size w wr

def GetIntsRel (w : World) (l : List UInt8) (o : Option (List Nat × Nat)) (m n i at_ : Nat) (u : Value) (wr : World) : Prop :=
  ∃ pre : List Nat, GetIntsAt w l o m n i at_ u wr pre

theorem getIntsRel_next {w wr w2 : World} {l : List UInt8} {o : Option (List Nat × Nat)} {m n i j x k : Nat} {u v : Value} {b : Value} {pre : List Nat} (h : GetIntsAt w l o m n i j u wr pre) (hl : l.length = n) (hi : i < m) (hd : NM.dec (l.drop j) = some (x, k))
    (ho : w2.ownsRow w.heap.size 3 1 v (i + 1) (ic (intsOf pre) ++ [.int .i64 (x : Int)]))
    (hg : (wr.alloc (.cells #[b] 3)).grownBy w2 u.ownBlock) : GetIntsRel w l o m n (i + 1) (j + k) v w2 := by
  obtain ⟨h1, h2, h3, h4, h5, h6⟩ := h
  have hb := NM.dec_bound _ x k hd
  rw [List.length_drop] at hb
  refine ⟨pre ++ [x], by simp [h1], by omega, by omega, ?_, ?_, ?_⟩
  · rw [← h4, show m - i = (m - (i + 1)) + 1 by omega, NM.liftB_some pre j _ _ x k hd, List.drop_drop]
  · rw [intsOf_snoc, ic_append]; exact ho
  · refine (h6.alloc h6.size _).grown hg (by have := h6.size; simp; omega) fun g hgu => ?_
    rcases h5.2 with ⟨rfl, _⟩ | ⟨g', cap, cur, rfl, hb, _⟩
    · simp [Value.ownBlock] at hgu
    · simp [Value.ownBlock] at hgu; omega

theorem getInts_arg (A : Option Addr) (n c : Nat) (most : Int) (w : World) (hb : ¬ (0 ≤ most ∧ most ≤ 4096)) :
    Calls Try.prog 13 #[.slice A n c, .int .i64 most] w fun e w' => e = .returned (.tuple #[.slice none 0 0, .int .i64 0, .int .i64 2]) ∧ w = w' := by
  by_cases h1 : most < 0
  · clear hb
    go_enter Try.func13, Try.ntmps13
    go_wp2
    go_ret3
    exact ⟨rfl, rfl⟩
  · have h2 : 4096 < most := by omega
    have h3 : 0 ≤ most := by omega
    clear hb h1
    go_enter Try.func13, Try.ntmps13
    go_wp2
    go_ret3
    exact ⟨rfl, rfl⟩

set_option maxHeartbeats 2000000 in
theorem getInts_any (A : Option Addr) (n c most : Nat) (l : List UInt8) (w : World) (hr : Rd w A n (bc l)) (hnc : n ≤ c) (hm : c ≤ maxLen) (hmost : most ≤ 4096) :
    Calls Try.prog 13 #[.slice A n c, .int .i64 most] w (GetIntsPost w (NM.getInts l most)) := by
  obtain ⟨i0, hi, hz0, hz1, hz2⟩ := info_parts info_int
  have hg := get_any A n c l w hr (Nat.le_trans hnc hm)
  have hm2 : c ≤ 9223372036854775807 := by unfold maxLen at hm; omega
  have hl : l.length = n := by have := hr.1; rwa [bc_length] at this
  have HL := Lib.hid hl; clear hl
  have HM := Lib.hid hm; clear hm
  rcases hd : NM.dec l with _ | ⟨x, k⟩
  · rw [hd] at hg
    have hfin : NM.getInts l most = none := by unfold NM.getInts; rw [hd]
    have HF := Lib.hid hfin; clear hfin hd
    have HG := Lib.hid hg; clear hg
    go_enter Try.func13, Try.ntmps13
    go_wp2_with (go_at_call 10; refine (HG.out).mono ?_; rintro e w' ⟨rfl, rfl⟩; unfold getRes)
    go_ret3
    exact ⟨Below.refl _ _, .inl ⟨HF.out, rfl⟩⟩
  · have hb := NM.dec_bound l x k hd
    rw [hd] at hg
    obtain ⟨hx, hk1, hkl, hk6, hdrop⟩ := hb
    clear hdrop
    rw [HL.out] at hkl
    have HG := Lib.hid hg; clear hg
    by_cases h1 : x ≤ most
    · have hfin := NM.getInts_of l most x k hd h1
      obtain ⟨o, ho⟩ : ∃ o, o = NM.getInts l most := ⟨_, rfl⟩
      have hstart : GetIntsRel w l o x n 0 k (.slice none 0 0) w := ⟨[], rfl, by omega, hkl, by rw [ho, hfin]; rfl, World.ownsRow_nil _ _ _ _, Below.refl _ _⟩
      rw [← ho]
      clear hfin hd ho
      have HS := Lib.hid hstart; clear hstart
      have t1 : decide ((4096 : Int) < (most : Int)) = false := by simp; omega
      have t2 : decide ((most : Int) < (x : Int)) = false := by simp; omega
      have t3 : decide (most < x) = false := by simp; omega
      go_enter Try.func13, Try.ntmps13
      go_wp2_with (go_at_call 10; refine (HG.out).mono ?_; rintro e w' ⟨rfl, rfl⟩; unfold getRes)
      go_loopw [4, 5, 31] (fun u s t wr => ∃ i j : Nat, i ≤ x ∧ j ≤ n ∧ s = .int .i64 j ∧ t = .int .i64 i ∧ GetIntsRel w l o x n i j u wr) (fun _ _ t _ => x - (intOf t).toNat)
      case atStart => exact ⟨0, k, by omega, hkl, rfl, rfl, HS.out⟩
      case round =>
        clear HS HG
        obtain ⟨i, j, hix, hjn, rfl, rfl, hrel⟩ := hrel
        have hbel : Below w.heap.size w wr := by obtain ⟨pre, _, _, _, _, _, h⟩ := hrel; exact h
        have hr2 := hr.below hbel
        by_cases hlt : i < x
        · have hjl : ∃ ys, ys = l.drop j := ⟨_, rfl⟩
          obtain ⟨ys, hys⟩ := hjl
          rcases hd2 : NM.dec (l.drop j) with _ | ⟨y, q⟩
          · have hfin : o = none := by
              obtain ⟨pre, h1, h2, h3, h4, h5, h6⟩ := hrel
              rw [← h4, show x - i = (x - (i + 1)) + 1 by omega, NM.liftB_none _ _ _ _ hd2]
            have HF := Lib.hid hfin; clear hfin hrel
            have HB := Lib.hid hbel; clear hbel
            by_cases hcj : c = j
            · have hg2 : Calls Try.prog 10 #[.slice A 0 0] wr fun e w' => e = .returned (getRes none) ∧ wr = w' := by
                have := get_any A 0 0 [] wr Rd.nil (by omega)
                exact this
              subst hcj
              obtain rfl : n = c := by omega
              have HG2 := Lib.hid hg2; clear hg2 hr2 hd2 hys
              have HR := Lib.hid hr; clear hr
              go_wp2_with (go_at_call 10; refine (HG2.out).mono ?_; rintro e w' ⟨rfl, rfl⟩; unfold getRes)
              go_ret3
              exact ⟨HB.out, .inl ⟨HF.out, rfl⟩⟩
            · have hg2 := get_any (A.map (fun x => x.add j)) (n - j) (c - j) (l.drop j) wr (by rw [← bc_drop]; exact hr2.cutm hjn) (by have := HM.out; omega)
              rw [hd2] at hg2
              have HG2 := Lib.hid hg2; clear hg2 hr2 hd2 hys
              have HR := Lib.hid hr; clear hr
              go_wp2_with (go_at_call 10; refine (HG2.out).mono ?_; rintro e w' ⟨rfl, rfl⟩; unfold getRes)
              go_ret3
              exact ⟨HB.out, .inl ⟨HF.out, rfl⟩⟩
          · have hbd := NM.dec_bound _ y q hd2
            rw [List.length_drop, HL.out] at hbd
            obtain ⟨hy, hq1, hqn, hq6, hqd⟩ := hbd
            clear hqd hys
            have hcj : c ≠ j := by omega
            have hg2 := get_any (A.map (fun x => x.add j)) (n - j) (c - j) (l.drop j) wr (by rw [← bc_drop]; exact hr2.cutm hjn) (by have := HM.out; omega)
            rw [hd2] at hg2
            obtain ⟨pre, hrel⟩ := hrel
            have hown0 : wr.ownsRow w.heap.size 3 1 u4 i (ic (intsOf pre)) := hrel.2.2.2.2.1
            have hbs := hbel.size
            have HG2 := Lib.hid hg2; clear hg2 hr2
            have HR := Lib.hid hr; clear hr
            have HD := Lib.hid hd2; clear hd2
            have HRel := Lib.hid hrel; clear hrel
            go_wp2_with (first
              | (go_at_call 10; refine (HG2.out).mono ?_; rintro e w' ⟨rfl, rfl⟩; unfold getRes)
              | (at_builtin; refine wpList_append_rd _ rfl _ _ 30 rfl w.heap.size 3 i0 (.int .i64 0) 8 Try.underlying30 hi hz0 hz1 hz2 rfl _ _ _ rfl (hown0.alloc _) (some ⟨wr.heap.size, 0, none⟩) 1 1 [.int .i64 (y : Int)] rfl (rd_new _ _ _) (by intro u hu; simp at hu; subst hu; rfl) (by unfold maxLen; omega) (by omega) (by simp; omega) ?_; intro v2 w2 hown2 hg2 hob2))
            have hnext := getIntsRel_next HRel.out HL.out hlt HD.out hown2 hg2
            clear hown2 hg2 hob2
            go_roundw
            case rel => exact ⟨i + 1, j + q, by omega, by omega, by go_num, by go_num, hnext⟩
            case measure => simp [intOf]; omega
        · obtain ⟨pre, g1, g2, g3, h4, h5, h6⟩ := hrel
          obtain rfl : i = x := by omega
          rw [Nat.sub_self, NM.liftB_end] at h4
          have HF := Lib.hid h4; clear h4
          have H1 := Lib.hid g1; clear g1
          go_wp2
          go_ret3
          refine ⟨h6, .inr ⟨pre, j, _, HF.out.symm, rfl, ?_⟩⟩
          rw [H1.out]
          exact h5
    · have hfin : NM.getInts l most = none := by unfold NM.getInts; rw [hd]; simp only [if_neg h1]
      have HF := Lib.hid hfin; clear hfin hd
      go_enter Try.func13, Try.ntmps13
      go_wp2_with (go_at_call 10; refine (HG.out).mono ?_; rintro e w' ⟨rfl, rfl⟩; unfold getRes)
      go_ret3
      exact ⟨Below.refl _ _, .inl ⟨HF.out, rfl⟩⟩
end Go.Proofs.Ytffikjepeoeimaa
