/-
  The walk of NumTexts: texts and lists that are written are read back, whatever stands behind; what is read is written as just these bytes.
-/
import Derived.Test.YtffikjepeoeimaaNumAlive
import Derived.Test.YtffikjepeoeimaaNumT
import Derived.Test.YtffikjepeoeimaaNumI
import Derived.Test.YtffikjepeoeimaaNumJ
import Derived.Deep.QuietTactic
import Derived.BigQuiet
import Derived.Deep.DeepCutAuto
namespace Go.Proofs.Ytffikjepeoeimaa
open Go.RowKit
set_option linter.unusedVariables false

/-- what Text answers -/
def TextFact (w' : World) (l : List UInt8) (v : Value) (x : Int) : Prop :=
  (l.length ≤ 4096 ∧ x = 0 ∧ ∃ A c, v = .slice A (NM.text l).length c ∧ Rd w' A (NM.text l).length (bc (NM.text l)) ∧ (NM.text l).length ≤ c ∧ c ≤ maxLen) ∨ (4096 < l.length ∧ x = 3 ∧ v = .slice none 0 0)
theorem text_all (l : List UInt8) (w : World) (hl : l.length ≤ 9223372036854775807) :
    Calls Try.prog 11 #[.string ⟨l.toArray⟩] w fun e w' => ∃ v x, e = .returned (.tuple #[v, .int .i64 x]) ∧ TextFact w' l v x ∧ Below w.heap.size w w' := by
  by_cases h : l.length ≤ 4096
  · refine (text_ok ⟨l.toArray⟩ w h).mono ?_
    rintro e w' ⟨v, rfl, ho, hb⟩
    obtain ⟨A, c, rfl, h1, h2⟩ := own_slice ho
    exact ⟨_, 0, rfl, .inl ⟨h, rfl, A, c, rfl, Rd.of_own ho, h1, h2⟩, hb⟩
  · refine (text_no ⟨l.toArray⟩ w (by show 4096 < l.toArray.size; simp; omega)).mono ?_
    rintro e w' ⟨rfl, rfl⟩
    exact ⟨_, 3, rfl, .inr ⟨by omega, rfl, rfl⟩, Below.refl _ _⟩

/-- what Ints answers -/
def IntsFact (w' : World) (zs : List Int) (v : Value) (x : Int) : Prop :=
  (zs.length ≤ 4096 ∧ okAll zs ∧ x = 0 ∧ ∃ A c, v = .slice A (NM.ints (nats zs)).length c ∧ Rd w' A (NM.ints (nats zs)).length (bc (NM.ints (nats zs))) ∧ (NM.ints (nats zs)).length ≤ c ∧ c ≤ maxLen) ∨
  (zs.length ≤ 4096 ∧ ¬ okAll zs ∧ x = 2 ∧ v = .slice none 0 0) ∨ (4096 < zs.length ∧ x = 4 ∧ v = .slice none 0 0)
theorem ints_all (A : Option Addr) (n c : Nat) (zs : List Int) (w : World) (hr : Rd w A n (ic zs)) (hm : n ≤ maxLen) :
    Calls Try.prog 12 #[.slice A n c] w fun e w' => ∃ v x, e = .returned (.tuple #[v, .int .i64 x]) ∧ IntsFact w' zs v x ∧ Below w.heap.size w w' := by
  have hl : zs.length = n := by have := hr.1; rwa [ic_length] at this
  by_cases h : n ≤ 4096
  · refine (ints_any A n c zs w hr h).mono ?_
    rintro e w' ⟨hb, ⟨hok, v, rfl, ho⟩ | ⟨hno, rfl⟩⟩
    · obtain ⟨A, c, rfl, h1, h2⟩ := own_slice ho
      exact ⟨_, 0, rfl, .inl ⟨by omega, hok, rfl, A, c, rfl, Rd.of_own ho, h1, h2⟩, hb⟩
    · exact ⟨_, 2, rfl, .inr (.inl ⟨by omega, hno, rfl, rfl⟩), hb⟩
  · refine (ints_many A n c w (by omega) hm).mono ?_
    rintro e w' ⟨rfl, rfl⟩
    exact ⟨_, 4, rfl, .inr (.inr ⟨by omega, rfl, rfl⟩), Below.refl _ _⟩

/-- what GetText answers -/
def GetTextFact (l t : List UInt8) (k : Nat) (x : Int) : Prop := (x = 8 ∧ NM.getText l = none ∧ t = [] ∧ k = 0) ∨ (x = 0 ∧ NM.getText l = some (t, k))
theorem getText_all (A : Option Addr) (n c : Nat) (l : List UInt8) (w : World) (hr : Rd w A n (bc l)) (hnc : n ≤ c) (hm : c ≤ maxLen) :
    Calls Try.prog 19 #[.slice A n c] w fun e w' => ∃ (t : List UInt8) (k : Nat) (x : Int), e = .returned (.tuple #[.string ⟨t.toArray⟩, .int .i64 k, .int .i64 x]) ∧ GetTextFact l t k x ∧ w = w' := by
  refine (getText_any A n c l w hr hnc hm).mono ?_
  rintro e w' ⟨rfl, rfl⟩
  rcases h : NM.getText l with _ | ⟨t, k⟩
  · exact ⟨[], 0, 8, rfl, .inl ⟨rfl, h, rfl, rfl⟩, rfl⟩
  · exact ⟨t, k, 0, rfl, .inr ⟨rfl, h⟩, rfl⟩

theorem intsOf_nats (zs : List Int) (h : okAll zs) : intsOf (nats zs) = zs := by
  induction zs with
  | nil => rfl
  | cons z zs ih =>
    have hz := h z (by simp)
    have := ih fun y hy => h y (by simp [hy])
    simp only [intsOf, nats, List.map_cons] at this ⊢
    rw [this]
    congr 1
    show ((z.toNat : Nat) : Int) = z
    omega
theorem nats_ok (zs : List Int) (h : okAll zs) : ∀ x ∈ nats zs, x ≤ 1099511627776 := by
  intro x hx
  simp only [nats, List.mem_map] at hx
  obtain ⟨z, hz, rfl⟩ := hx
  have := h z hz
  omega
theorem nats_intsOf (xs : List Nat) : nats (intsOf xs) = xs := by
  unfold nats intsOf
  rw [List.map_map]
  exact List.map_id'' (fun x => rfl) xs
theorem okAll_intsOf (xs : List Nat) (h : ∀ x ∈ xs, x ≤ 1099511627776) : okAll (intsOf xs) := by
  intro z hz
  simp only [intsOf, List.mem_map] at hz
  obtain ⟨x, hx, rfl⟩ := hz
  have := h x hx
  exact ⟨Int.natCast_nonneg x, by show (x : Int) ≤ _; omega⟩

set_option maxRecDepth 100000 in
set_option maxHeartbeats 4000000 in
theorem numTexts_core (l0 : List UInt8) (A : Option Addr) (n ca : Nat) (zs : List Int) (B : Option Addr) (m cb : Nat) (lb : List UInt8) (w : World) (HRA : Hid (Rd w A n (ic zs))) (HRB : Hid (Rd w B m (bc lb)))
    (h0 : l0.length ≤ 10000) (hn : n ≤ 5000) (hm : m ≤ 10000) (hna : n ≤ ca) (hmb : m ≤ cb) (HCB : Hid (cb ≤ maxLen)) (hcb : cb ≤ 9223372036854775807) (hca : ca ≤ 9223372036854775807) :
    Calls Try.prog 7 #[.string ⟨l0.toArray⟩, .slice A n ca, .slice B m cb] w fun e w' => e = .returned (.bool true) ∧ Below w.heap.size w w' := by
  obtain ⟨i0, hi, hz0, hz1, hz2⟩ := info_parts info_u8
  have hla : zs.length = n := by have := HRA.out.1; rwa [ic_length] at this
  have hlb : lb.length = m := by have := HRB.out.1; rwa [bc_length] at this
  have HLA := Lib.hid hla; clear hla
  have HLB := Lib.hid hlb; clear hlb
  have t1 : decide ((10000 : Int) < (m : Int)) = false := by simp; omega
  have t2 : decide ((10000 : Int) < (l0.length : Int)) = false := by simp; omega
  have t3 : decide ((5000 : Int) < (n : Int)) = false := by simp; omega
  have t1 : decide ((10000 : Int) < (m : Int)) = false := by simp; omega
  have t2 : decide ((10000 : Int) < (l0.length : Int)) = false := by simp; omega
  have t3 : decide ((5000 : Int) < (n : Int)) = false := by simp; omega
  have t1 : decide ((10000 : Int) < (m : Int)) = false := by simp; omega
  have t2 : decide ((10000 : Int) < (l0.length : Int)) = false := by simp; omega
  have t3 : decide ((5000 : Int) < (n : Int)) = false := by simp; omega
  have t1 : decide ((10000 : Int) < (m : Int)) = false := by simp; omega
  have t2 : decide ((10000 : Int) < (l0.length : Int)) = false := by simp; omega
  have t3 : decide ((5000 : Int) < (n : Int)) = false := by simp; omega
  go_enter Try.func7, Try.ntmps7
  go_wp2_with fail
  refine (alive_any _).mono ?_
  rintro e w1 ⟨rfl, hb1⟩
  go_wp2_with fail
  refine (text_all l0 _ (by omega)).mono ?_
  rintro e w2 ⟨v2, x2, rfl, hT2, hb2⟩
  have hB2 := bmore hb1 hb2 (Nat.le_refl _)
  clear hb1 hb2
  go_upto_if 48 with (fail)
  go_cut [8, 9] (fun s8 s9 wx => Below w.heap.size w wx)
  case first =>
    rcases hT2 with ⟨hl, rfl, A2, c2, rfl, hr2, hc2, hm2⟩ | ⟨_, rfl, rfl⟩
    rotate_left
    · go_wp2
      go_meet
      exact hB2
    have hrb2 := HRB.out.below hB2
    have hgt := NM.getText_text l0 lb hl
    obtain ⟨lt, hlt⟩ : ∃ lt, lt = NM.text l0 := ⟨_, rfl⟩
    have hlt2 : (NM.text l0).length ≤ 5000 := by unfold NM.text; rw [List.length_append]; have := NM.enc_le l0.length; omega
    rw [← hlt] at hr2 hc2 hgt hlt2 ⊢
    obtain ⟨k2, hk2⟩ : ∃ k, k = lt.length := ⟨_, rfl⟩
    rw [← hk2] at hr2 hc2 hgt hlt2 ⊢
    have HGT := Lib.hid hgt; clear hgt hlt hk2
    go_wp2_with (first
      | (at_builtin; refine wpList_append_rd _ rfl (.const (.slice none 0 0)) (.tmp 50) 22 rfl w2.heap.size 5 i0 (.int .u8 0) 1 Try.underlying22 hi hz0 hz1 hz2 rfl (.slice none 0 0) 0 [] rfl (World.ownsRow_nil _ _ _ _) A2 k2 c2 (bc lt) rfl hr2 (bc_one _) (by unfold maxLen; omega) (by omega) (Nat.le_refl _) ?_; intro v3 w3 hown3 hg3 hob3; simp only [Nat.zero_add, List.nil_append] at hown3; have hb3 := below_of_grown hg3 (by simp [Value.ownBlock]); have hrb3 := hrb2.below hb3)
      | (at_builtin; refine wpList_append_rd _ rfl (.tmp 51) (.tmp 52) 22 rfl w2.heap.size 5 i0 (.int .u8 0) 1 Try.underlying22 hi hz0 hz1 hz2 rfl v3 k2 (bc lt) rfl hown3 B m cb (bc lb) rfl hrb3 (bc_one _) (by unfold maxLen; omega) (by omega) hb3.size ?_; intro v4 w4 hown4 hg4 hob4))
    obtain ⟨A4, c4, rfl, hc4, hm4⟩ := own_slice hown4
    rw [← bc_append] at hown4
    have hr4 := Rd.of_own hown4
    have hB4 : Below w.heap.size w w4 := by
      have hb4 : Below w2.heap.size w2 w4 := hb3.grown hg4 hb3.size (fun g hg => by
        rcases hob3 with e | e
        · rw [e] at hg; simp [Value.ownBlock] at hg
        · rw [e] at hg; injection hg with hg; omega)
      exact bmore hB2 hb4 (Nat.le_refl _)
    clear hown3 hown4 hg3 hg4 hob3 hob4 hrb2 hrb3 hb3

    have hget := getText_any A4 (k2 + m) c4 (lt ++ lb) w4 hr4 hc4 hm4
    rw [HGT.out] at hget
    have HGet := Lib.hid hget; clear hget hr4
    refine (HGet.out).mono ?_
    rintro e w5 ⟨rfl, rfl⟩
    unfold textRes
    go_wp2
    go_meet
    exact hB4
  case rest =>
    clear hT2 hB2
    have hB2 := hcut; clear hcut
    go_wp2_with fail
    refine (ints_all A n ca zs _ (HRA.out.below hB2) (by unfold maxLen; omega)).mono ?_
    rintro e w6 ⟨v6, x6, rfl, hI6, hb6⟩
    have hB6 := bmore hB2 hb6 (Nat.le_refl _)
    clear hB2 hb6
    go_upto_if 77 with (fail)
    go_cut [8, 9] (fun s8 s9 wx => Below w.heap.size w wx)
    case first =>
      rcases hI6 with ⟨hl, hok, rfl, A6, c6, rfl, hr6, hc6, hm6⟩ | ⟨_, _, rfl, rfl⟩ | ⟨_, rfl, rfl⟩
      rotate_left
      · go_wp2
        go_meet
        exact hB6
      · go_wp2
        go_meet
        exact hB6
      have hrb2 := HRB.out.below hB6
      have hgi := NM.getInts_ints (nats zs) lb 4096 (nats_ok zs hok) (by rw [nats_length]; exact hl) (by rw [nats_length]; exact hl)
      have hli2 : (NM.ints (nats zs)).length ≤ 100000 := by unfold NM.ints; rw [List.length_append]; have := NM.enc_le (nats zs).length; have := NM.body_le (nats zs); rw [nats_length] at this; omega
      obtain ⟨li, hli⟩ : ∃ l, l = NM.ints (nats zs) := ⟨_, rfl⟩
      rw [← hli] at hr6 hc6 hgi hli2 ⊢
      obtain ⟨k6, hk6⟩ : ∃ k, k = li.length := ⟨_, rfl⟩
      rw [← hk6] at hr6 hc6 hgi hli2 ⊢
      have HGI := Lib.hid hgi; clear hgi hli hk6
      go_wp2_with (first
        | (at_builtin; refine wpList_append_rd _ rfl (.const (.slice none 0 0)) (.tmp 79) 22 rfl w6.heap.size 5 i0 (.int .u8 0) 1 Try.underlying22 hi hz0 hz1 hz2 rfl (.slice none 0 0) 0 [] rfl (World.ownsRow_nil _ _ _ _) A6 k6 c6 (bc li) rfl hr6 (bc_one _) (by unfold maxLen; omega) (by omega) (Nat.le_refl _) ?_; intro v3 w3 hown3 hg3 hob3; simp only [Nat.zero_add, List.nil_append] at hown3; have hb3 := below_of_grown hg3 (by simp [Value.ownBlock]); have hrb3 := hrb2.below hb3)
        | (at_builtin; refine wpList_append_rd _ rfl (.tmp 80) (.tmp 81) 22 rfl w6.heap.size 5 i0 (.int .u8 0) 1 Try.underlying22 hi hz0 hz1 hz2 rfl v3 k6 (bc li) rfl hown3 B m cb (bc lb) rfl hrb3 (bc_one _) (by unfold maxLen; omega) (by omega) hb3.size ?_; intro v4 w4 hown4 hg4 hob4))
      obtain ⟨A4, c4, rfl, hc4, hm4⟩ := own_slice hown4
      rw [← bc_append] at hown4
      have hr4 := Rd.of_own hown4
      have hB4 : Below w.heap.size w w4 := by
        have hb4 : Below w6.heap.size w6 w4 := hb3.grown hg4 hb3.size (fun g hg => by
          rcases hob3 with e | e
          · rw [e] at hg; simp [Value.ownBlock] at hg
          · rw [e] at hg; injection hg with hg; omega)
        exact bmore hB6 hb4 (Nat.le_refl _)
      clear hown3 hown4 hg3 hg4 hob3 hob4 hrb2 hrb3 hb3
      have hget := getInts_any A4 (k6 + m) c4 4096 (li ++ lb) w4 hr4 hc4 hm4 (by omega)
      rw [show ((4096 : Nat) : Int) = 4096 from rfl, HGI.out] at hget
      have HGet := Lib.hid hget; clear hget hr4
      refine (HGet.out).mono ?_
      rintro e w5 ⟨hb5, ⟨hno, _⟩ | ⟨xs, k, v5, ho, rfl, hown5⟩⟩
      · cases hno
      simp only [Option.some.injEq, Prod.mk.injEq] at ho
      obtain ⟨rfl, rfl⟩ := ho
      rw [intsOf_nats zs hok, nats_length, HLA.out] at hown5
      obtain ⟨A5, c5, rfl, hc5, hm5⟩ := own_slice hown5
      have hr5 := Rd.of_own hown5
      have hB5 := bmore hB4 hb5 (Nat.le_refl _)
      have hra5 := HRA.out.below hB5
      clear hown5 hb5 hB4 HGet hr6 hB6
      go_wp2_with fail
      go_loopw [16] (fun i wr => ∃ k q : Nat, k ≤ n ∧ i = .int .i64 k ∧ wr = w5.drewN q) (fun i _ => n - (intOf i).toNat)
      case atStart => exact ⟨0, 0, by omega, rfl, rfl⟩
      case round =>
        obtain ⟨k, q, hk, rfl, rfl⟩ := hrel
        by_cases hlt : k < n
        · obtain ⟨ad1, u1, rfl, _, hu1, hcell1⟩ := hr5.at_ hlt
          obtain ⟨ad2, u2, rfl, _, hu2, hcell2⟩ := hra5.at_ hlt
          have hkz : k < zs.length := by have := HLA.out; omega
          rw [ic_get zs k hkz] at hu1 hu2
          injection hu1 with hu1
          injection hu2 with hu2
          subst hu1
          subst hu2
          obtain ⟨z, hz⟩ : ∃ z, z = zs[k] := ⟨_, rfl⟩
          rw [← hz] at hcell1 hcell2
          have HZ := Lib.hid hz; clear hz
          have hk0 : (0 : Int) ≤ (k : Int) := by omega
          have hkn : (k : Int) < (n : Int) := by omega
          have hbz : (z != z) = false := by simp
          go_wp2_with fail
          go_quiet (fail)
          go_wp2_with fail
          go_roundw
          case rel => exact ⟨k + 1, q + nq, by omega, by go_num, by simp⟩
          case measure => simp [intOf]; omega
        · go_wp2
          go_meet
          exact below_drewN hB5 q
    case rest =>
      clear hI6 hB6
      have hB6 := hcut; clear hcut
      go_wp2_with fail
      refine (getText_all B m cb lb _ (HRB.out.below hB6) hmb HCB.out).mono ?_
      rintro e w7 ⟨tt, kt, xt, rfl, hGT, rfl⟩
      go_upto_if 124 with (fail)
      go_cut [17, 18, 19] (fun s17 s18 s19 wx => Below w.heap.size w wx)
      case first =>
        rcases hGT with ⟨rfl, _, rfl, rfl⟩ | ⟨rfl, hgt⟩
        · go_wp2
          go_meet
          exact hB6
        have hg := NM.text_getText lb tt kt hgt
        obtain ⟨hg1, hg2, hg3⟩ := hg
        have hktm : kt ≤ m := by have := HLB.out; omega
        have hlk : (lb.take kt).length = kt := by rw [List.length_take]; omega
        have HG3 := Lib.hid hg3; clear hg3 hgt hg2
        have HLK := Lib.hid hlk; clear hlk
        go_wp2_with fail
        refine (text_all tt _ (by omega)).mono ?_
        rintro e w8 ⟨v8, x8, rfl, hT8, hb8⟩
        rcases hT8 with ⟨_, rfl, A8, c8, rfl, hr8, hc8, hm8⟩ | ⟨h8, _, _⟩
        rotate_left
        · omega
        rw [HG3.out, HLK.out] at hr8 hc8 ⊢
        have hB8 := bmore hB6 hb8 (Nat.le_refl _)
        have hrb8 := (HRB.out.below hB8).front (k := kt) hktm
        rw [bc_take] at hrb8
        have hx1 : ∀ (nq cap : Nat), (convert 22 9 (.slice A8 kt cap)).run Try.prog (w8.drewN nq) = .ok (.string ⟨(lb.take kt).toArray⟩) (w8.drewN nq) := (fun nq cap => run_string_of _ _ _ 5 _ _ cap _ Try.underlying22 Try.underlying5 Try.underlying9 (hr8.drewN nq))
        have hx2 : ∀ (nq cap : Nat), (convert 22 9 (.slice B kt cap)).run Try.prog (w8.drewN nq) = .ok (.string ⟨(lb.take kt).toArray⟩) (w8.drewN nq) := (fun nq cap => run_string_of _ _ _ 5 _ _ cap _ Try.underlying22 Try.underlying5 Try.underlying9 (hrb8.drewN nq))
        clear hr8 hrb8 hb8 hB6
        obtain ⟨tx, htx⟩ : ∃ t, t = lb.take kt := ⟨_, rfl⟩
        rw [← htx] at hx1 hx2
        clear htx HG3 HLK
        have tk : decide ((m : Int) < (kt : Int)) = false := by simp; omega
        have tk2 : decide (m < kt) = false := by simp; omega
        go_wp2_with fail
        go_quiet (fail)
        go_wp2
        go_meet
        exact below_drewN hB8 _
      case rest =>
        clear hGT hB6
        have hB6 := hcut; clear hcut
        go_wp2_with fail
        have hget := getInts_any B m cb 4096 lb _ (HRB.out.below hB6) hmb HCB.out (by omega)
        rw [show ((4096 : Nat) : Int) = 4096 from rfl] at hget
        have HGet := Lib.hid hget; clear hget
        refine (HGet.out).mono ?_
        rintro e w9 ⟨hb9, ⟨hno, rfl⟩ | ⟨xs, k, v9, ho, rfl, hown9⟩⟩
        · have hB9 := bmore hB6 hb9 (Nat.le_refl _)
          clear hno HGet
          go_wp2
          go_ret
          exact ⟨rfl, hB9⟩
        have hB9 := bmore hB6 hb9 (Nat.le_refl _)
        obtain ⟨A9, c9, rfl, hc9, hm9⟩ := own_slice hown9
        have hr9 := Rd.of_own hown9
        clear hown9 hb9 HGet hB6
        have hg := NM.ints_getInts lb 4096 xs k ho
        obtain ⟨hg1, hg2, hg3, hg4⟩ := hg
        have hkm : k ≤ m := by have := HLB.out; omega
        have hlk : (lb.take k).length = k := by rw [List.length_take]; omega
        have HG4 := Lib.hid hg4; clear hg4 ho hg3
        have HG2 := Lib.hid hg2; clear hg2
        have HLK := Lib.hid hlk; clear hlk
        go_wp2_with fail
        refine (ints_all A9 xs.length c9 (intsOf xs) _ hr9 (Nat.le_trans hc9 hm9)).mono ?_
        rintro e w10 ⟨v10, x10, rfl, hI10, hb10⟩
        rcases hI10 with ⟨_, _, rfl, A10, c10, rfl, hr10, hc10, hm10⟩ | ⟨_, h10, _, _⟩ | ⟨h10, _, _⟩
        rotate_left
        · exact absurd (okAll_intsOf xs HG2.out) h10
        · rw [intsOf_length] at h10; omega
        rw [nats_intsOf, HG4.out, HLK.out] at hr10 hc10 ⊢
        have hB10 := bmore hB9 hb10 (Nat.le_refl _)
        have hrb10 := (HRB.out.below hB10).front (k := k) hkm
        rw [bc_take] at hrb10
        have hx1 : ∀ (nq cap : Nat), (convert 22 9 (.slice A10 k cap)).run Try.prog (w10.drewN nq) = .ok (.string ⟨(lb.take k).toArray⟩) (w10.drewN nq) := (fun nq cap => run_string_of _ _ _ 5 _ _ cap _ Try.underlying22 Try.underlying5 Try.underlying9 (hr10.drewN nq))
        have hx2 : ∀ (nq cap : Nat), (convert 22 9 (.slice B k cap)).run Try.prog (w10.drewN nq) = .ok (.string ⟨(lb.take k).toArray⟩) (w10.drewN nq) := (fun nq cap => run_string_of _ _ _ 5 _ _ cap _ Try.underlying22 Try.underlying5 Try.underlying9 (hrb10.drewN nq))
        clear hr10 hrb10 hb10 hB9 hr9
        obtain ⟨tx, htx⟩ : ∃ t, t = lb.take k := ⟨_, rfl⟩
        rw [← htx] at hx1 hx2
        clear htx HG4 HLK HG2
        go_wp2_with fail
        go_quiet (fail)
        go_wp2
        go_ret
        exact ⟨by simp, below_drewN hB10 _⟩

set_option maxRecDepth 100000 in
set_option maxHeartbeats 1000000 in
theorem numTexts_walk (a0 : ByteArray) (a1 : Option Addr) (len1 cap1 : Nat) (z1 : List Int) (a2 : Option Addr) (len2 cap2 : Nat) (z2 : List Int) (w : World) (w0 : a0.size ≤ maxLen) (w1 : IsRow .i64 w a1 len1 cap1 z1) (w2 : IsRow .u8 w a2 len2 cap2 z2) :
    Calls Try.prog 7 #[.string a0, .slice a1 len1 cap1, .slice a2 len2 cap2] w fun e w' => e = .returned (.bool true) ∧ Below w.heap.size w w' := by
  obtain ⟨hl1, hm1, _⟩ := w1.len_le
  obtain ⟨hl2, hm2, _⟩ := w2.len_le
  have hc1 : cap1 ≤ 9223372036854775807 := by unfold maxLen at hm1; omega
  have hc2 : cap2 ≤ 9223372036854775807 := by unfold maxLen at hm2; omega
  have hc0 : a0.size ≤ 9223372036854775807 := by unfold maxLen at w0; omega
  by_cases hb : len2 ≤ 10000 ∧ a0.size ≤ 10000 ∧ len1 ≤ 5000
  · obtain ⟨h2, h0, h1⟩ := hb
    have e : a0 = ⟨a0.data.toList.toArray⟩ := by cases a0; simp
    rw [e]
    exact numTexts_core a0.data.toList a1 len1 cap1 _ a2 len2 cap2 _ w (Lib.hid w1.ints) (Lib.hid w2.bytes) (by rw [text_len]; exact h0) h1 h2 hl1 hl2 (Lib.hid hm2) hc2 hc1
  · clear w1 w2 w0 hm1 hm2
    have hcase : 10000 < len2 ∨ (len2 ≤ 10000 ∧ 10000 < a0.size) ∨ (len2 ≤ 10000 ∧ a0.size ≤ 10000 ∧ 5000 < len1) := by omega
    clear hb
    rcases hcase with h | ⟨h, h'⟩ | ⟨h, h', h''⟩
    all_goals
      go_enter Try.func7, Try.ntmps7
      go_wp2_with fail
      refine (alive_any _).mono ?_
      rintro e w1 ⟨rfl, hb1⟩
      go_wp2
      go_ret
      exact ⟨rfl, hb1⟩
end Go.Proofs.Ytffikjepeoeimaa
