/-
  The walk of VoteNames: the limits and errors have their numbers, the chapter's examples are so. No input.
-/
import Derived.Test.YtgdelnegameapaaVoteAlive
import Derived.Test.YtgdelnegameapaaVoteMore
import Derived.Deep.RegionHeld3
namespace Go.Proofs.Ytgdelnegameapaa
open Go.RowKit
set_option linter.unusedVariables false

theorem info_bytes : (Try.prog.info? 5).map (fun i => (i.zero, i.size, i.bytes)) = some (some (.int .u8 0), 1, 1) := by kernel_rfl
def zeros : ByteArray := ⟨(List.replicate 1025 (0 : UInt8)).toArray⟩
theorem zeros_size : zeros.size = 1025 := by
  have : ∀ n, (⟨(List.replicate n (0 : UInt8)).toArray⟩ : ByteArray).size = n := fun n => by show (List.replicate n (0 : UInt8)).toArray.size = n; rw [List.size_toArray, List.length_replicate]
  exact this 1025
theorem cutp {p q : Prop} (h : p) (k : p → q) : q := k h
theorem siz_alloc (w : World) (o : Obj) : (w.alloc o).heap.size = w.heap.size + 1 := by simp
theorem vx : VM.may 17 8 ⟨#[120]⟩ := ⟨.inr good_17, .inr ⟨by decide, good_8, by decide, by decide⟩⟩
theorem vn_1 : VM.AccIs 17 8 ⟨#[120]⟩ 8 ⟨#[121]⟩ 0 0 .empty 70 := ⟨.inr (.inr (.inr (.inl ⟨vx, good_8, by decide, by decide, rfl⟩))), .inl ⟨by decide, rfl, rfl, rfl⟩⟩
theorem good_9 : BM.good 9 := by unfold BM.good; omega
theorem vn_2 : VM.PrepIs 17 8 ⟨#[120]⟩ 9 0 0 .empty 70 := ⟨.inr (.inr (.inr (.inl ⟨vx, good_9, by decide, by decide, rfl⟩))), .inl ⟨by decide, rfl, rfl, rfl⟩⟩
theorem vn_3 : VM.AccIs 17 8 ⟨#[120]⟩ 17 ⟨#[121]⟩ 17 17 ⟨#[121]⟩ 0 := ⟨VM.wrong_zero.2 ⟨vx, good_17, by decide, by decide⟩, .inr ⟨rfl, rfl, rfl, rfl⟩⟩
theorem bad_7 : ¬ BM.good 7 := by unfold BM.good; omega
theorem vz : VM.may 0 0 .empty := ⟨.inl rfl, .inl ⟨rfl, rfl⟩⟩
theorem vn_4 : VM.PrepIs 0 0 .empty 7 0 0 .empty 50 := ⟨.inr (.inl ⟨vz, bad_7, rfl⟩), .inl ⟨by decide, rfl, rfl, rfl⟩⟩
theorem vn_5 : VM.AccIs 17 8 ⟨#[120]⟩ 17 zeros 0 0 .empty 3 := ⟨.inr (.inr (.inl ⟨vx, good_17, by rw [zeros_size]; decide, rfl⟩)), .inl ⟨by decide, rfl, rfl, rfl⟩⟩
theorem vn_6 : ChkIs 8 9 .empty 8 := .inr ⟨fun h => h.2.elim (fun h => absurd h.1 (by decide)) (fun h => absurd h.2.2.1 (by decide)), rfl⟩
theorem vn_7 : ChkIs 0 0 .empty 0 := .inl ⟨vz, rfl⟩
theorem vb1 {u wa : World} {T T2 : TypeId} {a b c : Value} {mk : Array Value} (ha : Below (((u.alloc (.cells #[a, b, c] T)).alloc (.cells mk T2)).drew).heap.size (((u.alloc (.cells #[a, b, c] T)).alloc (.cells mk T2)).drew) wa) :
    Below u.heap.size u wa ∧ Box wa u.heap.size T #[a, b, c] :=
  ⟨bmore ((((Below.refl _ _).alloc (Nat.le_refl _) _).alloc (by simp) _).drew) ha (Nat.le_refl _),
    (((Box.new u T #[a, b, c]).alloc (.cells mk T2)).drew).below ha (by show u.heap.size < ((u.alloc (.cells #[a, b, c] T)).alloc (.cells mk T2)).heap.size; simp; omega)⟩
theorem vb2 {u wa : World} {T T2 : TypeId} {a b c : Value} {mk : Array Value} (ha : Below (((u.alloc (.cells mk T2)).alloc (.cells #[a, b, c] T)).drew).heap.size (((u.alloc (.cells mk T2)).alloc (.cells #[a, b, c] T)).drew) wa) :
    Below u.heap.size u wa ∧ Box wa (u.heap.size + 1) T #[a, b, c] :=
  ⟨bmore ((((Below.refl _ _).alloc (Nat.le_refl _) _).alloc (by simp) _).drew) ha (Nat.le_refl _),
    ((Box.new_at (w := u.alloc (.cells mk T2)) (u.heap.size + 1) (siz_alloc _ _)).drew).below ha (by show u.heap.size + 1 < ((u.alloc (.cells mk T2)).alloc (.cells #[a, b, c] T)).heap.size; simp)⟩
theorem vb3 {u wa : World} {T2 : TypeId} {mk : Array Value} (ha : Below ((u.alloc (.cells mk T2)).drew).heap.size ((u.alloc (.cells mk T2)).drew) wa) :
    Below u.heap.size u wa ∧ True :=
  ⟨bmore (((Below.refl _ _).alloc (Nat.le_refl _) _).drew) ha (Nat.le_refl _), trivial⟩
def MidV (u : World) (z : Value) (wx : World) : Prop := z = .int .i64 3 ∧ Below u.heap.size u wx

set_option maxRecDepth 100000 in
set_option maxHeartbeats 4000000 in
theorem voteNames_walk (w : World) : Calls Try.prog 3 #[] w fun e w' => e = .returned (.bool true) ∧ Below w.heap.size w w' := by
  obtain ⟨i0, hi, hz0, hz1, hz2⟩ := info_parts info_bytes
  have HI : Hid ((Try.prog.info? 5) = some i0 ∧ i0.zero = some (.int .u8 0) ∧ i0.size = 1 ∧ i0.bytes = 1) := Lib.hid ⟨hi, hz0, hz1, hz2⟩
  clear hi hz0 hz1 hz2
  have HB0 := Lib.hid (Below.refl w.heap.size w)
  go_enter Try.func3, Try.ntmps3
  go_wp2_with fail
  refine (three_any _).mono ?_
  rintro e w1 ⟨rfl, hc⟩
  have hx := var3 hc 23 (.int .i64 17) (.int .i64 8) (.string ⟨#[120]⟩)
  have HB2 := Lib.hid (bmore HB0.out hx.1 (Nat.le_refl _))
  have R3 := Lib.hid hx.2
  clear hc hx HB0
  obtain ⟨ca5, cb5, cc5, fa5, fb5, fc5⟩ := R3.out.three
  go_wp2_with fail
  clear ca5 cb5 cc5 fa5 fb5 fc5
  generalize w1.alloc (.cells #[.int .i64 17, .int .i64 8, .string ⟨#[120]⟩] 23) = w6 at R3 HB2 ⊢
  generalize w1.heap.size = g4 at R3 ⊢
  refine (acc_any _ (by omega) (by omega) (by omega) (by omega) (by decide) (by omega) (by omega) (by decide) vn_1).mono ?_
  rintro e w7 ⟨rfl, hc⟩
  have hx := var3 hc 23 (.int .i64 0) (.int .i64 0) (.string .empty)
  have R8 := Lib.hid (R3.out.below hx.1 R3.out.lt)
  have HB9 := Lib.hid (bmore HB2.out hx.1 (Nat.le_refl _))
  have R10 := Lib.hid hx.2
  clear hc hx R3 HB2
  obtain ⟨ca12, cb12, cc12, fa12, fb12, fc12⟩ := R8.out.three
  go_wp2_with fail
  clear ca12 cb12 cc12 fa12 fb12 fc12
  generalize w7.alloc (.cells #[.int .i64 0, .int .i64 0, .string .empty] 23) = w13 at R8 R10 HB9 ⊢
  generalize w7.heap.size = g11 at R10 ⊢
  refine (prep_any _ (by omega) (by omega) (by omega) (by omega) (by decide) (by omega) (by omega) vn_2).mono ?_
  rintro e w14 ⟨rfl, hc⟩
  have hx := var3 hc 23 (.int .i64 0) (.int .i64 0) (.string .empty)
  have R15 := Lib.hid (R8.out.below hx.1 R8.out.lt)
  have HB16 := Lib.hid (bmore HB9.out hx.1 (Nat.le_refl _))
  have R17 := Lib.hid hx.2
  clear hc hx R8 HB9
  obtain ⟨ca19, cb19, cc19, fa19, fb19, fc19⟩ := R15.out.three
  go_wp2_with fail
  clear ca19 cb19 cc19 fa19 fb19 fc19
  generalize w14.alloc (.cells #[.int .i64 0, .int .i64 0, .string .empty] 23) = w20 at R15 R17 HB16 ⊢
  generalize w14.heap.size = g18 at R17 ⊢
  refine (acc_any _ (by omega) (by omega) (by omega) (by omega) (by decide) (by omega) (by omega) (by decide) vn_3).mono ?_
  rintro e w21 ⟨rfl, hc⟩
  have hx := var3 hc 23 (.int .i64 17) (.int .i64 17) (.string ⟨#[121]⟩)
  have R22 := Lib.hid (R15.out.below hx.1 R15.out.lt)
  have HB23 := Lib.hid (bmore HB16.out hx.1 (Nat.le_refl _))
  have R24 := Lib.hid hx.2
  clear hc hx R15 HB16
  obtain ⟨ca26, cb26, cc26, fa26, fb26, fc26⟩ := R22.out.three
  go_wp2_with fail
  clear ca26 cb26 cc26 fa26 fb26 fc26
  generalize w21.alloc (.cells #[.int .i64 17, .int .i64 17, .string ⟨#[121]⟩] 23) = w27 at R22 R24 HB23 ⊢
  generalize w21.heap.size = g25 at R24 ⊢
  refine (prep_any _ (by omega) (by omega) (by omega) (by omega) (by decide) (by omega) (by omega) vn_4).mono ?_
  rintro e w28 ⟨rfl, hc⟩
  have hx := var3 hc 23 (.int .i64 0) (.int .i64 0) (.string .empty)
  have R29 := Lib.hid (R22.out.below hx.1 R22.out.lt)
  have R30 := Lib.hid (R24.out.below hx.1 R24.out.lt)
  have HB31 := Lib.hid (bmore HB23.out hx.1 (Nat.le_refl _))
  have R32 := Lib.hid hx.2
  clear hc hx R22 R24 HB23
  go_upto_region 6 with (fail)
  generalize w28.alloc (.cells #[.int .i64 0, .int .i64 0, .string .empty] 23) = w34 at R29 R30 R32 HB31 ⊢
  generalize w28.heap.size = g33 at R32 ⊢
  obtain ⟨ca35, cb35, cc35, fa35, fb35, fc35⟩ := R29.out.three
  obtain ⟨mk, hmk, hcv⟩ : ∃ mk : Array Value, (∀ W, (Instr.makeSlice 30 (.int .i64 1025) (.int .i64 1025)).run Try.prog W = .ok (.slice (some ⟨W.heap.size, 0, none⟩) 1025 1025) (W.alloc (.cells mk 5))) ∧ (∀ W g, Box W g 5 mk → (convert 30 9 (.slice (some ⟨g, 0, none⟩) 1025 1025)).run Try.prog W = .ok (.string zeros) W) := by
    refine ⟨_, fun W => run_make (P := Try.prog) W _ _ i0 _ Try.underlying30 HI.out.1 HI.out.2.1 .i64 .i64 1025 1025 (by omega) (by omega) (by rw [HI.out.2.2.2]; omega) (by omega), fun W g hb => ?_⟩
    refine run_string_of W _ _ 5 _ _ _ _ Try.underlying30 Try.underlying5 Try.underlying9 (rd_box hb ?_ ?_)
    · rw [HI.out.2.2.1]; show (madeCells (Value.int .u8 0).cells (1025 * 1)).toList = _; rw [Nat.mul_one, show (Value.int .u8 0).cells = #[Value.int .u8 0] from rfl, toList_madeCells_one]; unfold bc; rw [List.map_replicate]; rfl
    · unfold bc; simp
  have m1 := hcv ((w34.alloc (.cells mk 5)).drew) w34.heap.size (Box.new_at _ rfl).drew
  have m2 := hcv (((w34.alloc (.cells #[.int .i64 0, .int .i64 0, .string ⟨#[]⟩] 23)).alloc (.cells mk 5)).drew) (w34.heap.size + 1) (Box.new_at _ (siz_alloc _ _)).drew
  have m3 := hcv (((w34.alloc (.cells mk 5)).alloc (.cells #[.int .i64 0, .int .i64 0, .string ⟨#[]⟩] 23)).drew) w34.heap.size ((Box.new_at _ rfl).alloc _).drew
  have hgl : g4 < w34.heap.size := R29.out.lt
  clear hcv HI
  go_cut [12] (fun z12 wx => MidV w34 z12 wx)
  case first =>
    have Z := R29.out
    have ZZ := Lib.hid Z; clear Z
    clear HB31 R29 R30
    go_region_with (first
      | (go_at_call 9; ((with_reducible refine (acc_any _ (by omega) (by omega) (by omega) (by omega) (by decide) (by omega) (by omega) (by rw [zeros_size]; decide) vn_5).mono ?_); rintro e wa ⟨rfl, ha⟩; (first | (have hq := vb1 ha; obtain ⟨x0, x1, x2, x3, x4, x5⟩ := hq.2.three) | (have hq := vb2 ha; obtain ⟨x0, x1, x2, x3, x4, x5⟩ := hq.2.three) | (have hq := vb3 ha; have hx := True.intro)); have hbq := Lib.hid hq.1; clear ha hq)))
    all_goals (go_wp2_with fail; go_meet; case rel => first | exact ⟨rfl, hbq.out.alloc hbq.out.size _⟩ | exact ⟨rfl, below_put3 hbq.out (Nat.le_refl _) _ _ _⟩ | exact ⟨rfl, below_put3 hbq.out (Nat.le_succ _) _ _ _⟩)
  case rest =>
    obtain ⟨rfl, hbc⟩ := hcut
    clear m1 m2 m3 hmk hgl ca35 cb35 cc35 fa35 fb35 fc35
    have R36 := Lib.hid (R30.out.below hbc R30.out.lt)
    have HB37 := Lib.hid (bmore HB31.out hbc (Nat.le_refl _))
    clear hbc R30 HB31
    go_wp2_with fail
    refine (alive_any _).mono ?_
    rintro e w38 ⟨rfl, hc⟩
    have R39 := Lib.hid (R36.out.below hc R36.out.lt)
    have HB40 := Lib.hid (bmore HB37.out hc (Nat.le_refl _))
    clear hc R36 HB37
    obtain ⟨ca41, cb41, cc41, fa41, fb41, fc41⟩ := R39.out.three
    go_wp2_with fail
    clear ca41 cb41 cc41 fa41 fb41 fc41
    refine (vcheck_any _ (by omega) (by omega) (by omega) (by omega) (by decide) vn_6).mono ?_
    rintro e w42 ⟨rfl, hc⟩
    have R43 := Lib.hid (R39.out.below hc R39.out.lt)
    have HB44 := Lib.hid (bmore HB40.out hc (Nat.le_refl _))
    clear hc R39 HB40
    go_wp2_with fail
    refine (vcheck_any _ (by omega) (by omega) (by omega) (by omega) (by decide) vn_7).mono ?_
    rintro e w45 ⟨rfl, hc⟩
    have R46 := Lib.hid (R43.out.below hc R43.out.lt)
    have HB47 := Lib.hid (bmore HB44.out hc (Nat.le_refl _))
    clear hc R43 HB44
    go_wp2_with fail
    go_ret
    exact ⟨rfl, HB47.out⟩
end Go.Proofs.Ytgdelnegameapaa
