/- Contracts of functions of towncrier, layers 5 to 9, and of the document's own ones, part 16; each as its theorem says. -/
import Derived.Test.YtiiobafcgdelmaaGreatL01
import Derived.Test.YtiiobafcgdelmaaGreatL15
set_option linter.unusedVariables false
set_option linter.unusedSimpArgs false
namespace Go.Proofs.YtiiobafcgdelmaaGreat.PD
open Go.RowKit Go.Shelf
theorem WdAt.try_s {U : World} {base g i : Nat} {w : DC.Wd} {t : AM.At} (h : WdAt U base g w) (hi : w.ts[i]? = some t) :
  ∃ q c A5 c5 D5 q5 C5 f5, AtOwn U base (.agg #[.int .u8 t.ph, .int .i64 t.ba, .slice A5 t.ms.length c5, .string t.wi, .string t.va, .slice D5 t.ps.length q5, .slice C5 t.ac.length f5]) t ∧ ∀ w', Below U.heap.size U w' →
   (w'.cell? ⟨g, 2, none⟩ = some (.slice (some ⟨q, 0, none⟩) w.ts.length c) ∧ w'.cell? ⟨q, i * 7, none⟩ = some (.int .u8 t.ph) ∧ w'.cell? ⟨q, i * 7 + 1, none⟩ = some (.int .i64 t.ba) ∧ w'.cell? ⟨q, i * 7 + 2, none⟩ = some (.slice A5 t.ms.length c5) ∧ w'.cell? ⟨q, i * 7 + 3, none⟩ = some (.string t.wi) ∧
    w'.cell? ⟨q, i * 7 + 4, none⟩ = some (.string t.va) ∧ w'.cell? ⟨q, i * 7 + 5, none⟩ = some (.slice D5 t.ps.length q5) ∧ w'.cell? ⟨q, i * 7 + 6, none⟩ = some (.slice C5 t.ac.length f5)) := by
 obtain ⟨q, c, x, y, z, hown, hc⟩ := h.try_ hi
 obtain ⟨A5, c5, D5, q5, C5, f5, e⟩ := hown.form
 simp only [Value.agg.injEq, Array.mk.injEq, List.cons.injEq, and_true, true_and] at e
 obtain ⟨rfl, rfl, rfl⟩ := e
 exact ⟨q, c, A5, c5, D5, q5, C5, f5, hown, hc⟩
theorem set_same {α : Type} {l : List α} {i : Nat} {a : α} (h : l[i]? = some a) : l.set i a = l := by
 obtain ⟨hi, rfl⟩ := List.getElem?_eq_some_iff.1 h
 exact List.set_getElem_self hi
def TelPost (base g : Nat) (w : DC.Wd) (n : Int) (a : AM.At) (W : World) (e : Ending) (W' : World) : Prop :=
 e = .returned (.tuple #[]) ∧ WdAt W' base g (DC.tells w n a) ∧ Kept isTk W W' ∧ Below base W W'
set_option maxRecDepth 100000 in
set_option maxHeartbeats 8000000 in
theorem tell_any (base g i : Nat) (w : DC.Wd) (a : AM.At) (W : World) (H : WdAt W base g w) (h0 : DC.May0 w) (hi : i < 6) (hT : w.ts[i]? = some a) (ht : DC.Tell w.ms (i : Int) a) (hbase : base ≤ W.heap.size) (hl : w.ml.length ≤ 1900) (hch : w.ch.length ≤ 1900) :
  Calls Tryz.prog 102 #[.pointer (some ⟨g, 0, none⟩), .int .i64 (i : Int)] W (TelPost base g w (i : Int) a W) := by
 have hn : DC.isNode (i : Int) := by unfold DC.isNode; omega
 have LT6 := h! h0.tl
 have LV6 := h! h0.vl
 have hVv : w.vs[i]? = some (DC.getV w (i : Int)) := by have := DC.getV_at h0.vl hn; rwa [Int.toNat_natCast] at this
 have hvm := h0.vote hn
 have hss := set_same hT
 have hmsl : w.ms.length ≤ 6 := (QM.may_len h0.ms).2.1
 have hol := DC.others_len w.ms (DC.mk (i : Int) 0 3 a.ba 0 a.va)
 obtain ⟨w1, hw1⟩ : ∃ w1 : DC.Wd, w1 = ⟨w.ms, w.vs, w.ts, w.ml ++ DC.others w.ms (DC.mk (i : Int) 0 3 a.ba 0 a.va), w.ch⟩ := ⟨_, rfl⟩
 have ht1 : DC.tell1 w (i : Int) a = w1 := by unfold DC.tell1; rw [Int.toNat_natCast, hss, hw1]
 have hm1 : DC.May0 w1 := by rw [← ht1]; exact DC.may_tell1 h0 hn ht
 have hA : QM.has w.ms (i : Int) = false → DC.tells w (i : Int) a = w1 := fun e => by unfold DC.tells; rw [if_neg (fun h => by rw [h.1] at e; cases e), ht1]
 have hA2 : ¬ (DC.getV w (i : Int)).p ≤ a.ba → DC.tells w (i : Int) a = w1 := fun e => by unfold DC.tells; rw [if_neg (fun h => e h.2), ht1]
 obtain ⟨w2, hw2⟩ : ∃ w2 : DC.Wd, w2 = ⟨w1.ms, w1.vs.set i ⟨a.ba, a.ba, a.va⟩, w1.ts, w1.ml, w1.ch⟩ := ⟨_, rfl⟩
 have hm2 : DC.May0 w2 := by rw [hw2]; exact hm1.setV i (VM.may_acc ht.good ht.va.1)
 have hT2 : DC.getT w2 (i : Int) = a := by
  unfold DC.getT
  rw [hw2, hw1, Int.toNat_natCast]
  show (w.ts[i]?).getD AM.zero = a
  rw [hT]; rfl
 have hB : QM.has w.ms (i : Int) = true → (DC.getV w (i : Int)).p ≤ a.ba → DC.tells w (i : Int) a = accF w2 (i : Int) a.ba (i : Int) := fun e1 e2 => by
  unfold DC.tells
  rw [if_pos ⟨e1, e2⟩, ht1]
  unfold accF
  rw [hT2, if_pos (DC.errA_own ht e1)]
  unfold DC.tell2
  rw [hw2, Int.toNat_natCast]
 have hgood := ht.good
 have hva := ht.va.1
 have hx := VM.accIs_ex (DC.getV w (i : Int)).p (DC.getV w (i : Int)).b (DC.getV w (i : Int)).v a.ba a.va
 obtain ⟨vt, hvt⟩ : ∃ vt, vt = DC.getV w (i : Int) := ⟨_, rfl⟩
 rw [← hvt] at hVv hvm hA2 hB hx
 obtain ⟨x, y, tv, ee, hacc⟩ := hx
 have hok : vt.p ≤ a.ba → x = a.ba ∧ y = a.ba ∧ tv = a.va ∧ ee = 0 := fun e => by
  obtain ⟨e1, e2, e3, e4⟩ := VM.acc_good hacc hvm hgood hva e
  exact ⟨e1.symm, by rw [← e2, ← e1], e3.symm, e4⟩
 have hno : ¬ vt.p ≤ a.ba → ee ≠ 0 := fun e => (VM.acc_old hacc hvm hgood (by omega)).1
 have bv : (-9223372036854775808 ≤ vt.p ∧ vt.p ≤ 9223372036854775807) ∧ (-9223372036854775808 ≤ vt.b ∧ vt.b ≤ 9223372036854775807) ∧ vt.v.size ≤ maxLen := by
  unfold BM.good at hgood
  obtain ⟨hp, hb⟩ := hvm
  have h1 : 0 ≤ vt.p ∧ vt.p ≤ 9223372036854775807 := by
   rcases hp with h | h
   ·omega
   ·unfold BM.good at h; omega
  refine ⟨by omega, ?_⟩
  rcases hb with ⟨e1, e2⟩ | ⟨_, e1, _, e3⟩
  ·exact ⟨by omega, by rw [e2]; decide⟩
  ·unfold BM.good at e1; exact ⟨by omega, by unfold maxLen; omega⟩
 have HPA := h! (fun W' => VP.acc_any (s := vt.v) W' bv.1.1 bv.1.2 bv.2.1.1 bv.2.1.2 bv.2.2 (by unfold BM.good at hgood; omega) (by unfold BM.good at hgood; omega) (by unfold maxLen; omega) hacc)
 obtain ⟨q, c, A5, c5, D5, q5, C5, f5, hown, hcell⟩ := H.try_s hT
 obtain ⟨t0, t1, t2, t3, t4, t5, t6, t7⟩ := hcell W (Below.refl _ _)
 have hal : Below W.heap.size W (W.alloc (.cells #[.int .u8 a.ph, .int .i64 a.ba, .slice A5 a.ms.length c5, .string a.wi, .string a.va, .slice D5 a.ps.length q5, .slice C5 a.ac.length f5] 57)) := b!
 have S1 : Hid (TkS W base g w W.heap.size a A5 c5 D5 q5 C5 f5 (W.alloc (.cells #[.int .u8 a.ph, .int .i64 a.ba, .slice A5 a.ms.length c5, .string a.wi, .string a.va, .slice D5 a.ps.length q5, .slice C5 a.ac.length f5] 57))) :=
  h! ⟨H.below hal, ⟨Box.new _ _ _, hown.alloc _⟩, Kept.of_below hal, hal.mono hbase⟩
 have HO : Hid (∀ u, TkS W base g w W.heap.size a A5 c5 D5 q5 C5 f5 u → Calls Tryz.prog 78 #[.pointer (some ⟨g, 0, none⟩), .agg #[.int .i64 (i : Int), .int .i64 0, .int .u8 3, .int .i64 0, .int .i64 0, .int .i64 a.ba, .int .i64 0, .string a.va, .int .i64 0, .int .i64 0]] u (OthPost base g w (DC.mk (i : Int) 0 3 a.ba 0 a.va) u)) :=
  h! fun u hu => sendAll_any base g w (DC.mk (i : Int) 0 3 a.ba 0 a.va) u hu.1 (Nat.le_trans hbase hu.2.2.2.size) (by omega) (by omega)
 have HAC := h! (fun (W' : World) (h : WdAt W' base g w2) (hbz : base ≤ W'.heap.size) => accepted_any base g i w2 a.ba (i : Int) W' h hm2 hi hbz (by rw [hw2, hw1]; exact hch))
 have HVV : Hid (w1.vs[i]? = some vt) := h! (by rw [hw1]; exact hVv)
 have HW1 := h! hw1
 have HW2 := h! hw2
 have HA := h! hA
 have HA2 := h! hA2
 have HB := h! hB
 have HOK := h! hok
 have HNO := h! hno
 have HBS := h! hbase
 have HI := h! hi
 have HL1 : Hid (w1.vs.length = 6) := h! (by rw [hw1]; exact h0.vl)
 have hm63 := h! (show w.ms.length ≤ 9223372036854775807 by omega)
 have hi0 : (0 : Int) ≤ (i : Int) := by omega
 have hi1 : (i : Int) < (w.ts.length : Int) := by have := LT6.out; omega
 have hi2 : (i : Int) < (w1.vs.length : Int) := by have := HL1.out; omega
 have mixed : Tryz.prog.follows Departure.mixedOrders = true := by kernel_rfl
 clear hVv hvm hss hmsl hol hw1 ht1 hm1 hA hA2 hw2 hm2 hT2 hB hgood hva hvt hacc hok hno bv hown hcell hal H h0 hn hbase hi hT ht hl hch
 go_enter Tryz.func102, Tryz.ntmps102
 go_upto_region 1 with (fail)
 clear t0 t1 t2 t3 t4 t5 t6 t7
 generalize W.alloc (.cells #[.int .u8 a.ph, .int .i64 a.ba, .slice A5 a.ms.length c5, .string a.wi, .string a.va, .slice D5 a.ps.length q5, .slice C5 a.ac.length f5] 57) = u at S1 ⊢
 generalize W.heap.size = gM at S1 HO ⊢
 obtain ⟨⟨s0, s1, s2, s3, s4, s5, s6⟩, _⟩ := S1.out.2.1.1.seven
 clear s0 s2 s3 s5 s6
 go_wp2_with fail
 refine (HO.out u S1.out).mono ?_
 rintro e w9 ⟨rfl, hW9, hk9, hb9⟩
 clear HO s1 s4
 have S2 : Hid (TkS W base g w1 gM a A5 c5 D5 q5 C5 f5 w9) := h! ⟨by rw [HW1.out]; exact hW9, S1.out.2.1.kept hk9 (by unfold isWM; decide) (by unfold isWM; decide) (by unfold isWM; decide), S1.out.2.2.1.trans (hk9.mono fun _ h => tk_of_wm h), below_more S1.out.2.2.2 hb9⟩
 clear hW9 hk9 hb9 S1
 have hms : w1.ms = w.ms := by rw [HW1.out]
 obtain ⟨A0, c0, g0, r0⟩ := S2.out.1.mems
 rw [hms] at g0 r0
 have HHas := h! (has_any A0 w.ms.length c0 w.ms (i : Int) w9 r0 hm63.out)
 clear hms r0
 rcases hh : QM.has w.ms (i : Int) with _ | _
 ·rw [hh] at HHas
  have HF : Hid (TelPost base g w (i : Int) a W (.returned (.tuple #[])) w9) := h! ⟨rfl, by rw [HA.out hh]; exact S2.out.1, S2.out.2.2.1, S2.out.2.2.2⟩
  clear hh HA HA2 HB
  go_wp2_with fail
  refine HHas.out.mono ?_
  rintro e w4 ⟨rfl, rfl⟩
  go_wp2_with fail
  go_end0
  exact HF.out
 rw [hh] at HHas
 have HH := h! hh
 clear hh
 go_wp2_with fail
 refine HHas.out.mono ?_
 rintro e w4 ⟨rfl, rfl⟩
 clear g0
 go_upto_region 3 with (fail)
 clear HHas
 obtain ⟨q1, c1, hvc⟩ := S2.out.1.vote HVV.out
 have hgMl := S2.out.2.1.1.lt
 have CC := h! (fun (w' : World) (hb : Below w9.heap.size w9 w') => (⟨(hvc w' hb).1, (hvc w' hb).2.1, (hvc w' hb).2.2.1, (hvc w' hb).2.2.2, (S2.out.2.1.1.below hb hgMl).cell 1, (S2.out.2.1.1.below hb hgMl).cell 4⟩ : w'.cell? ⟨g, 1, none⟩ = some (.slice (some ⟨q1, 0, none⟩) w1.vs.length c1) ∧ w'.cell? ⟨q1, i * 3, none⟩ = some (.int .i64 vt.p) ∧ w'.cell? ⟨q1, i * 3 + 1, none⟩ = some (.int .i64 vt.b) ∧ w'.cell? ⟨q1, i * 3 + 2, none⟩ = some (.string vt.v) ∧ w'.cell? ⟨gM, 1, none⟩ = some (.int .i64 a.ba) ∧ w'.cell? ⟨gM, 4, none⟩ = some (.string a.va)))
 clear hvc hgMl
 go_cut [5, 6] (fun u5 u6 wx => VoteMid w9 x y tv ee u5 u6 wx)
 case first =>
  have bb1 : Below w9.heap.size w9 w9.drew := (Below.refl _ _).drew
  have bb0 : ∀ ob : Obj, Below w9.heap.size w9 (w9.alloc ob).drew := fun ob => ((Below.refl _ _).alloc n! ob).drew
  refine wp_region_held_drew (S := fun w' => Below w9.heap.size w9 w') (by kernel_rfl) bb1 (fun hHeld => ?_)
  refine wpAnyH_take (i := 0) (v := ?_) rfl (by kernel_rfl) (by kernel_rfl) (by kernel_rfl) (fun _ _ _ h => h) (Or.inl ⟨by rfl, ?_⟩) (by assumption) ?_
  rotate_left
  ·intro w' hSw
   (try dsimp only at hSw)
   obtain ⟨k0, k1, k2, k3, k4, k5⟩ := CC.out _ hSw
   go_simp
   all_goals (with_reducible rfl)
  try simp only [Act.put, qq]
  refine wpAnyH_take (i := 1) (v := ?_) rfl (by kernel_rfl) (by kernel_rfl) (by kernel_rfl) (fun _ _ _ h => h) (Or.inl ⟨by rfl, ?_⟩) (by assumption) ?_
  rotate_left
  ·intro w' hSw
   (try dsimp only at hSw)
   obtain ⟨k0, k1, k2, k3, k4, k5⟩ := CC.out _ hSw
   go_simp
   all_goals (with_reducible rfl)
  try simp only [Act.put, qq]
  refine wpAnyH_take (i := 2) (v := ?_) rfl (by kernel_rfl) (by kernel_rfl) (by kernel_rfl) (fun _ _ _ h => h) (Or.inl ⟨by rfl, ?_⟩) (by assumption) ?_
  rotate_left
  ·intro w' hSw
   (try dsimp only at hSw)
   obtain ⟨k0, k1, k2, k3, k4, k5⟩ := CC.out _ hSw
   go_simp
   all_goals (with_reducible rfl)
  try simp only [Act.put, qq]
  refine wpAnyH_take (i := 3) (v := ?_) rfl (by kernel_rfl) (by kernel_rfl) (by kernel_rfl) (fun _ _ _ h => h) (Or.inl ⟨by rfl, ?_⟩) (by assumption) ?_
  rotate_left
  ·intro w' hSw
   (try dsimp only at hSw)
   obtain ⟨k0, k1, k2, k3, k4, k5⟩ := CC.out _ hSw
   go_simp
   all_goals (with_reducible rfl)
  try simp only [Act.put, qq]
  refine wpAnyH_take (i := 4) (v := ?_) rfl (by kernel_rfl) (by kernel_rfl) (by kernel_rfl) (fun _ _ _ h => h) (Or.inl ⟨by rfl, ?_⟩) (by assumption) ?_
  rotate_left
  ·intro w' hSw
   (try dsimp only at hSw)
   obtain ⟨k0, k1, k2, k3, k4, k5⟩ := CC.out _ hSw
   go_simp
   all_goals (with_reducible rfl)
  try simp only [Act.put, qq]
  refine wpAnyH_take (i := 5) (v := ?_) rfl (by kernel_rfl) (by kernel_rfl) (by kernel_rfl) (fun _ _ _ h => h) (Or.inl ⟨by rfl, ?_⟩) (by assumption) ?_
  rotate_left
  ·intro w' hSw
   (try dsimp only at hSw)
   obtain ⟨k0, k1, k2, k3, k4, k5⟩ := CC.out _ hSw
   go_simp
   all_goals (with_reducible rfl)
  try simp only [Act.put, qq]
  refine wpAnyH_take (i := 6) (v := ?_) rfl (by kernel_rfl) (by kernel_rfl) (by kernel_rfl) (fun _ _ _ h => h) (Or.inl ⟨by rfl, ?_⟩) (by assumption) ?_
  rotate_left
  ·intro w' hSw
   (try dsimp only at hSw)
   obtain ⟨k0, k1, k2, k3, k4, k5⟩ := CC.out _ hSw
   go_simp
   all_goals (with_reducible rfl)
  try simp only [Act.put, qq]
  refine wpAnyH_take (i := 7) (v := ?_) rfl (by kernel_rfl) (by kernel_rfl) (by kernel_rfl) (fun _ _ _ h => h) (Or.inl ⟨by rfl, ?_⟩) (by assumption) ?_
  rotate_left
  ·intro w' hSw
   (try dsimp only at hSw)
   obtain ⟨k0, k1, k2, k3, k4, k5⟩ := CC.out _ hSw
   go_simp
   all_goals (with_reducible rfl)
  try simp only [Act.put, qq]
  refine wpAnyH_take (i := 8) (v := ?_) rfl (by kernel_rfl) (by kernel_rfl) (by kernel_rfl) (fun _ _ _ h => h) (Or.inl ⟨by rfl, ?_⟩) (by assumption) ?_
  rotate_left
  ·intro w' hSw
   (try dsimp only at hSw)
   obtain ⟨k0, k1, k2, k3, k4, k5⟩ := CC.out _ hSw
   go_simp
   all_goals (with_reducible rfl)
  try simp only [Act.put, qq]
  refine wpAnyH_take (i := 9) (v := ?_) rfl (by kernel_rfl) (by kernel_rfl) (by kernel_rfl) (fun _ _ _ h => h) (Or.inl ⟨by rfl, ?_⟩) (by assumption) ?_
  rotate_left
  ·intro w' hSw
   (try dsimp only at hSw)
   obtain ⟨k0, k1, k2, k3, k4, k5⟩ := CC.out _ hSw
   go_simp
   all_goals (with_reducible rfl)
  try simp only [Act.put, qq]
  refine wpAnyH_take (i := 10) (v := ?_) rfl (by kernel_rfl) (by kernel_rfl) (by kernel_rfl) (fun _ _ _ h => h) (Or.inl ⟨by rfl, ?_⟩) (by assumption) ?_
  rotate_left
  ·intro w' hSw
   (try dsimp only at hSw)
   obtain ⟨k0, k1, k2, k3, k4, k5⟩ := CC.out _ hSw
   go_simp
   all_goals (with_reducible rfl)
  try simp only [Act.put, qq]
  refine wpAnyH_ready (rs := [11, 15]) (by kernel_rfl) (by simp) ?_
  refine AllReadyH.cons rfl (fun K hK => ?_) (AllReadyH.cons rfl (fun K hK => ?_) AllReadyH.nil)
  ·go_simp
   refine (HPA.out _).mono ?_
   rintro e w4 ⟨rfl, hb⟩
   have hq := vm_1 (x := x) (y := y) (e := ee) (t := tv) hb
   have bb2 := hq.1
   have mid := h! hq.2
   clear hq hb
   refine hK.out _ _ (bb2) (fun hHeld => ?_)
   clear hK
   try simp only [Act.put, qq]
   refine qT 12 ?_
   try simp only [Act.put, qq]
   refine qT 13 ?_
   try simp only [Act.put, qq]
   refine qT 14 ?_
   try simp only [Act.put, qq]
   refine qR 15 fun K hK => ?_
   go_simp
   refine hK.out _ _ (bb2.alloc bb2.size _) (fun hHeld => ?_)
   clear hK
   try simp only [Act.put, qq]
   refine qR 16 fun K hK => ?_
   go_simp
   refine hK.out _ _ (bb2.alloc bb2.size _) (fun hHeld => ?_)
   clear hK
   try simp only [Act.put, qq]
   refine qT 17 ?_
   try simp only [Act.put, qq]
   refine wpAnyH_done (by kernel_rfl) ?_ _
   go_wp2_with fail
   go_meet
   case rel => exact mid.out
  ·go_simp
   refine hK.out _ _ (bb0 _) (fun hHeld => ?_)
   clear hK
   try simp only [Act.put, qq]
   refine qR 11 fun K hK => ?_
   go_simp
   refine (HPA.out _).mono ?_
   rintro e w4 ⟨rfl, hb⟩
   have hq := vm_2 (x := x) (y := y) (e := ee) (t := tv) hb
   have bb2 := hq.1
   obtain ⟨r0, r1, r2, z0, z1, z2⟩ := hq.2.1.three
   have mid := h! hq.2.2
   have kk := below_put3 bb2 (g := w9.heap.size) n! (.int .i64 x) (.int .i64 y) (.string tv)
   clear hq hb
   refine hK.out _ _ (bb2) (fun hHeld => ?_)
   clear hK
   try simp only [Act.put, qq]
   refine qT 12 ?_
   try simp only [Act.put, qq]
   refine qT 13 ?_
   try simp only [Act.put, qq]
   refine qT 14 ?_
   try simp only [Act.put, qq]
   refine qR 16 fun K hK => ?_
   go_simp
   refine hK.out _ _ (kk) (fun hHeld => ?_)
   clear hK
   try simp only [Act.put, qq]
   refine qT 17 ?_
   try simp only [Act.put, qq]
   refine wpAnyH_done (by kernel_rfl) ?_ _
   go_wp2_with fail
   go_meet
   case rel => exact mid.out
 case rest =>
  obtain ⟨gV, rfl, rfl, hmb, hmg, hmv⟩ := hcut
  clear CC HPA
  have S3 := h! (S2.out.below hmb (by have := S2.out.2.2.2.size; exact HBS.out))
  have XV := h! hmv
  clear hmb hmg hmv S2
  by_cases hp : vt.p ≤ a.ba
  rotate_left
  ·have e1 : (ee != 0) = true := by have := HNO.out (by omega); simpa using this
   have HF : Hid (TelPost base g w (i : Int) a W (.returned (.tuple #[])) wc) := h! ⟨rfl, by rw [HA2.out (by omega)]; exact S3.out.1, S3.out.2.2.1, S3.out.2.2.2⟩
   clear HA HA2 HB HOK HNO hp
   go_wp2_with fail
   go_end0
   exact HF.out
  obtain ⟨rfl, rfl, rfl, rfl⟩ := HOK.out hp
  have HE := h! (HB.out HH.out hp)
  clear HA HA2 HB HNO hp HOK
  go_upto_region 5 with (fail)
  obtain ⟨q2, c2, hq2, hq2l, d2, hthere, hst, hfar⟩ := (show WdAt wc.drew base g w1 from S3.out.1).storeV HL1.out HI.out
  obtain ⟨hs1, hs2, hs3, hs4⟩ := hst ⟨a.ba, a.ba, a.va⟩
  have hxV := hfar gV _ (show Box wc.drew gV _ _ from XV.out) rfl (.int .i64 a.ba) (.int .i64 a.ba) (.string a.va)
  have NX : Hid (TkS W base g w2 gM a A5 c5 D5 q5 C5 f5 (putAt3 wc.drew q2 (i * 3) (.int .i64 a.ba) (.int .i64 a.ba) (.string a.va))) :=
   h! ⟨by rw [HW2.out]; exact hs1, (show TryVar wc.drew base gM a A5 c5 D5 q5 C5 f5 from S3.out.2.1).kept hs2 (by unfold isV; decide) (by unfold isV; decide) (by unfold isV; decide), (S3.out.2.2.1.more ((Below.refl _ _).drew)).trans (hs2.mono fun _ h => tk_of_v h), below_more (bmore S3.out.2.2.2 ((Below.refl _ _).drew) HBS.out) hs3⟩
  obtain ⟨v0, v1, v2, _⟩ := (show Box wc.drew gV _ _ from XV.out).three
  obtain ⟨r0, r1, r2, _⟩ := hxV.three
  clear hst hfar hs1 hs2 hs3 hxV S3 hq2 hq2l XV
  go_cut [53] (fun _ wx => TkS W base g w2 gM a A5 c5 D5 q5 C5 f5 wx)
  case first =>
   have hS0 : wc.drew.cell? ⟨g, 1, none⟩ = some (.slice (some ⟨q2, 0, none⟩) w1.vs.length c2) ∧ wc.drew.cell? ⟨gV, 0, none⟩ = some (.int .i64 a.ba) ∧ wc.drew.cell? ⟨gV, 1, none⟩ = some (.int .i64 a.ba) ∧ wc.drew.cell? ⟨gV, 2, none⟩ = some (.string a.va) := ⟨d2, v0, v1, v2⟩
   have hS1 := And.intro hs4 (And.intro r0 (And.intro r1 r2))
   clear r0 r1 r2 v0 v1 v2 d2 hs4
   refine wp_region_held_drew (S := fun w' => w'.cell? ⟨g, 1, none⟩ = some (.slice (some ⟨q2, 0, none⟩) w1.vs.length c2) ∧ w'.cell? ⟨gV, 0, none⟩ = some (.int .i64 a.ba) ∧ w'.cell? ⟨gV, 1, none⟩ = some (.int .i64 a.ba) ∧ w'.cell? ⟨gV, 2, none⟩ = some (.string a.va)) (by kernel_rfl) hS0 (fun hHeld => ?_)
   refine qT 0 ?_
   try simp only [Act.put, qq]
   refine qT 1 ?_
   try simp only [Act.put, qq]
   refine qT 2 ?_
   try simp only [Act.put, qq]
   refine qT 3 ?_
   try simp only [Act.put, qq]
   refine qT 4 ?_
   try simp only [Act.put, qq]
   refine qT 5 ?_
   try simp only [Act.put, qq]
   refine qT 6 ?_
   try simp only [Act.put, qq]
   refine qR 7 fun K hK => ?_
   refine step_store_mid rfl 59 _ _ rfl q2 (i * 3) #[.int .i64 a.ba, .int .i64 a.ba, .string a.va] (by simp [Act.eval, Act.put]) (by simp [Act.eval, Act.put]) hthere (by kernel_rfl) (by simp [Value.oneCell']) ?_
   refine hK.out _ _ (hS1) (fun hHeld => ?_)
   clear hK
   try simp only [Act.put, qq]
   refine wpAnyH_done (by kernel_rfl) ?_ _
   go_wp2_with fail
   go_meet
   case rel => exact NX.out
  case rest =>
   clear NX hthere r0 r1 r2 v0 v1 v2 d2 hs4
   have S4 := h! hcut
   clear hcut
   obtain ⟨⟨s0, s1, s2, s3, s4, s5, s6⟩, _⟩ := S4.out.2.1.1.seven
   clear s0 s2 s3 s4 s5 s6
   go_wp2_with fail
   refine (HAC.out _ S4.out.1 (Nat.le_trans HBS.out S4.out.2.2.2.size)).mono ?_
   rintro e wz ⟨rfl, hz1, hz2, hz3⟩
   have HF : Hid (TelPost base g w (i : Int) a W (.returned (.tuple #[])) wz) := h! ⟨rfl, by rw [HE.out]; exact hz1, S4.out.2.2.1.trans hz2, below_more S4.out.2.2.2 hz3⟩
   clear hz1 hz2 hz3 s1 HAC
   go_wp2_with fail
   go_end0
   exact HF.out
end Go.Proofs.YtiiobafcgdelmaaGreat.PD
