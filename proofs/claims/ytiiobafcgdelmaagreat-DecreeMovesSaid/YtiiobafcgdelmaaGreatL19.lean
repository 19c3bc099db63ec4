/- Contracts of functions of towncrier, layers 5 to 9, and of the document's own ones, part 19; each as its theorem says. -/
import Derived.Test.YtiiobafcgdelmaaGreatL01
import Derived.Test.YtiiobafcgdelmaaGreatL04
import Derived.Test.YtiiobafcgdelmaaGreatL17
import Derived.Test.YtiiobafcgdelmaaGreatL13
import Derived.Test.YtiiobafcgdelmaaGreatL08
import Derived.Lib.SliceRun
import Derived.Deep.RegionLaw
set_option linter.unusedVariables false
set_option linter.unusedSimpArgs false
namespace Go.Proofs.YtiiobafcgdelmaaGreat
open Go.RowKit
theorem make_any {r n x y : Int} (h : BM.MakeIs r n x y) (w : World) : Calls Tryz.prog 97 #[.int .i64 r, .int .i64 n] w fun e w' => e = .returned (.tuple #[.int .i64 x, .int .i64 y]) ∧ w = w' := by
 rcases h with ⟨h, rfl, rfl⟩ | ⟨h, rfl, rfl⟩
 ·obtain ⟨h0, h1, h2, h3⟩ := id h
  go_enter Tryz.func97, Tryz.ntmps97
  go_wp2_with fail
  refine (mayBe_yes _ _ _ h).mono ?_
  rintro e w1 ⟨rfl, rfl⟩
  clear h
  go_wp2
  go_ret2
  exact ⟨rfl, rfl⟩
 ·have H := h! h; clear h
  go_enter Tryz.func97, Tryz.ntmps97
  go_wp2_with fail
  refine (mayBe_no _ _ _ H.out).mono ?_
  rintro e w1 ⟨rfl, rfl⟩
  go_wp2
  go_ret2
  exact ⟨rfl, rfl⟩
theorem next_no (a n : Int) (w : World) (h : ¬ BM.asks a n) : Calls Tryz.prog 75 #[.int .i64 a, .int .i64 n] w fun e w' => e = .returned (.tuple #[.int .i64 0, .int .i64 2]) ∧ w = w' := by
 rcases (show (n < 0 ∨ 6 ≤ n) ∨ (0 ≤ n ∧ n < 6 ∧ (a < 0 ∨ (0 ≤ a ∧ 8388613 < a))) by unfold BM.asks at h; omega) with h1 | ⟨h1, h2, h3⟩
 ·clear h
  have H := h! h1; clear h1
  go_enter Tryz.func75, Tryz.ntmps75
  go_wp2_with fail
  refine (isNode_no _ _ H.out).mono ?_
  rintro e w1 ⟨rfl, rfl⟩
  go_wp2
  go_ret2
  exact ⟨rfl, rfl⟩
 ·clear h
  rcases h3 with h3 | ⟨h3, h4⟩
  all_goals
   go_enter Tryz.func75, Tryz.ntmps75
   go_wp2_with fail
   refine (isNode_yes _ _ h1 h2).mono ?_
   rintro e w1 ⟨rfl, rfl⟩
   go_wp2
   go_ret2
   exact ⟨rfl, rfl⟩
set_option maxHeartbeats 1000000 in
theorem next_any {a n x y : Int} (h : BM.NextIs a n x y) (w : World) : Calls Tryz.prog 75 #[.int .i64 a, .int .i64 n] w fun e w' => e = .returned (.tuple #[.int .i64 x, .int .i64 y]) ∧ w = w' := by
 by_cases ha : BM.asks a n
 ·obtain ⟨z, u, hm, hu⟩ := BM.make_next h ha
  clear h
  obtain ⟨g0, g1, g2, g3⟩ := ha
  have hmk := fun w => make_any hm w
  have hr := BM.rnd_pos a n
  clear hm
  have hpart := part_nat a w g2 (by omega)
  rcases (show a < 8 ∨ 8 ≤ a by omega) with h8 | h8
  ·have hq : a / 8 = 0 := by omega
   have hp : a % 8 = a := by omega
   have er : BM.rnd a n = 1 := by unfold BM.rnd; rw [if_pos h8]
   rw [hq, hp] at hpart
   rw [er] at hmk
   have HP := h! hpart; clear hpart
   have HM := h! hmk; clear hmk
   have HU := h! hu; clear hu
   clear hq hp er hr
   rcases (show n ≤ a ∨ a < n by omega) with hn | hn
   all_goals
    go_enter Tryz.func75, Tryz.ntmps75
    go_wp2_with fail
    refine (isNode_yes _ _ g0 g1).mono ?_
    rintro e w1 ⟨rfl, rfl⟩
    go_wp2_with fail
    refine (HP.out).mono ?_
    rintro e w1 ⟨rfl, rfl⟩
    go_wp2_with fail
    refine (HM.out _).mono ?_
    rintro e w1 ⟨rfl, rfl⟩
    rcases HU.out with ⟨h1, h2, h3⟩ | ⟨h1, h2, h3⟩
    all_goals
     subst h1 h2 h3
     go_wp2
     go_ret2
     exact ⟨rfl, rfl⟩
  ·obtain ⟨q, hq⟩ : ∃ q, q = a / 8 := ⟨_, rfl⟩
   obtain ⟨p, hp⟩ : ∃ p, p = a % 8 := ⟨_, rfl⟩
   have hq1 : 1 ≤ q := by omega
   have hq2 : q ≤ 1048576 := by omega
   rw [← hq, ← hp] at hpart
   rcases (show n ≤ p ∨ p < n by omega) with hn | hn
   ·have er : BM.rnd a n = max (q + 1) 1 := by unfold BM.rnd; rw [if_neg (by omega), ← hp, ← hq, if_pos hn]; omega
    rw [er] at hmk
    have HP := h! hpart; clear hpart
    have HM := h! hmk; clear hmk
    have HU := h! hu; clear hu
    clear hq hp er hr
    go_enter Tryz.func75, Tryz.ntmps75
    go_wp2_with fail
    refine (isNode_yes _ _ g0 g1).mono ?_
    rintro e w1 ⟨rfl, rfl⟩
    go_wp2_with fail
    refine (HP.out).mono ?_
    rintro e w1 ⟨rfl, rfl⟩
    go_wp2_with fail
    refine (HM.out _).mono ?_
    rintro e w1 ⟨rfl, rfl⟩
    rcases HU.out with ⟨h1, h2, h3⟩ | ⟨h1, h2, h3⟩
    all_goals
     subst h1 h2 h3
     go_wp2
     go_ret2
     exact ⟨rfl, rfl⟩
   ·have er : BM.rnd a n = max q 1 := by unfold BM.rnd; rw [if_neg (by omega), ← hp, ← hq, if_neg (by omega)]; omega
    rw [er] at hmk
    have HP := h! hpart; clear hpart
    have HM := h! hmk; clear hmk
    have HU := h! hu; clear hu
    clear hq hp er hr
    go_enter Tryz.func75, Tryz.ntmps75
    go_wp2_with fail
    refine (isNode_yes _ _ g0 g1).mono ?_
    rintro e w1 ⟨rfl, rfl⟩
    go_wp2_with fail
    refine (HP.out).mono ?_
    rintro e w1 ⟨rfl, rfl⟩
    go_wp2_with fail
    refine (HM.out _).mono ?_
    rintro e w1 ⟨rfl, rfl⟩
    rcases HU.out with ⟨h1, h2, h3⟩ | ⟨h1, h2, h3⟩
    all_goals
     subst h1 h2 h3
     go_wp2
     go_ret2
     exact ⟨rfl, rfl⟩
 ·obtain ⟨rfl, rfl⟩ : x = 0 ∧ y = 2 := by
   rcases h with ⟨h, _⟩ | ⟨h, _⟩ | ⟨_, h⟩
   ·exact absurd h ha
   ·exact absurd h ha
   ·exact h
  exact next_no a n w ha
end Go.Proofs.YtiiobafcgdelmaaGreat
namespace Go.Proofs.YtiiobafcgdelmaaGreat.PD
open Go.RowKit Go.Shelf
def BegPost (base g : Nat) (w : DC.Wd) (n : Int) (s : ByteArray) (W : World) (e : Ending) (W' : World) : Prop :=
 (1048576 < BM.rnd (DC.getV w n).p n ∧ e = .returned (.int .i64 9) ∧ WdAt W' base g w ∧ Kept isTk W W' ∧ Below base W W') ∨
 (BM.rnd (DC.getV w n).p n ≤ 1048576 ∧ e = .returned (.int .i64 0) ∧ WdAt W' base g (DC.begins w n s) ∧ Kept isTk W W' ∧ Below base W W')
def BgS (W : World) (base g : Nat) (w : DC.Wd) (gv : Nat) (v : DC.Vt) (wx : World) : Prop :=
 WdAt wx base g w ∧ Box wx gv 59 #[.int .i64 v.p, .int .i64 v.b, .string v.v] ∧ Kept isTk W wx ∧ Below base W wx
theorem BgS.below {W wx wy : World} {base g gv : Nat} {w : DC.Wd} {v : DC.Vt} (h : BgS W base g w gv v wx) (hb : Below wx.heap.size wx wy) (hbase : base ≤ W.heap.size) : BgS W base g w gv v wy :=
 ⟨h.1.below hb, h.2.1.below hb h.2.1.lt, h.2.2.1.more hb, bmore h.2.2.2 hb hbase⟩
theorem next_is {p n : Int} (hp : VM.okP p) (hn : DC.isNode n) : (BM.rnd p n ≤ 1048576 → BM.NextIs p n (DC.nextB p n) 0) ∧ (1048576 < BM.rnd p n → BM.NextIs p n 0 9) := by
 have ha : BM.asks p n := by
  unfold DC.isNode at hn
  refine ⟨hn.1, hn.2, ?_, ?_⟩
  ·rcases hp with h | h
   ·omega
   ·unfold BM.good at h; omega
  ·rcases hp with h | h
   ·omega
   ·unfold BM.good at h; omega
 exact ⟨fun h => .inl ⟨ha, h, rfl, rfl⟩, fun h => .inr (.inl ⟨ha, h, rfl, rfl⟩)⟩
theorem start_form {w : World} {base : Nat} {v : Value} {ms : List Int} {b : Int} {s : ByteArray} (h : AtOwn w base v (AM.start ms b s)) :
  ∃ A c D q C f, v = .agg #[.int .u8 1, .int .i64 b, .slice A ms.length c, .string s, .string ⟨#[]⟩, .slice D 0 q, .slice C 0 f] := by
 obtain ⟨A, c, D, q, C, f, rfl⟩ := h.form
 exact ⟨A, c, D, q, C, f, rfl⟩
theorem begins_alone {w : DC.Wd} {i : Nat} {s : ByteArray} (hi : i < w.ts.length) (h : QM.has w.ms (i : Int) = false) : DC.begins w (i : Int) s = DC.begin1 w (i : Int) s := by
 unfold DC.begins DC.takes
 rw [if_neg]
 intro he
 obtain ⟨_, _, _, g4, _⟩ := AM.errP_zero he
 have e : DC.getT (DC.begin1 w (i : Int) s) (i : Int) = AM.start w.ms (DC.nextB (DC.getV w (i : Int)).p (i : Int)) s := by
  unfold DC.getT DC.begin1
  simp only [Int.toNat_natCast]
  rw [List.getElem?_set_self hi]; rfl
 rw [e] at g4
 have g5 : QM.has w.ms (i : Int) = true := g4
 rw [h] at g5
 cases g5
theorem WdAt.kept_hd {U U' : World} {base g : Nat} {w : DC.Wd} {S : TypeId → Prop} (h : WdAt U base g w) (k : Kept S U U') (hs : ¬ S 62) {j : Nat} : U'.cell? ⟨g, j, none⟩ = U.cell? ⟨g, j, none⟩ := by
 obtain ⟨A0, c0, A1, c1, A2, c2, A3, c3, A4, c4, xs, hgb, hx, _⟩ := h
 rw [(k.box _ _ _ hs hx).cell j, hx.cell j]
set_option maxRecDepth 100000 in
set_option maxHeartbeats 8000000 in
theorem wbegin_any (base g i : Nat) (w : DC.Wd) (s : ByteArray) (W : World) (H : WdAt W base g w) (h0 : DC.May0 w) (hi : i < 6) (hs : s.size ≤ 1024) (hbase : base ≤ W.heap.size) (hl : w.ml.length ≤ 1000) (hch : w.ch.length ≤ 1000) :
  Calls Tryz.prog 52 #[.pointer (some ⟨g, 0, none⟩), .int .i64 (i : Int), .string s] W (BegPost base g w (i : Int) s W) := by
 have hn : DC.isNode (i : Int) := by unfold DC.isNode; omega
 have LT6 := h! h0.tl
 have LV6 := h! h0.vl
 have hVv : w.vs[i]? = some (DC.getV w (i : Int)) := by have := DC.getV_at h0.vl hn; rwa [Int.toNat_natCast] at this
 have hvm := h0.vote hn
 obtain ⟨vt, hvt⟩ : ∃ vt, vt = DC.getV w (i : Int) := ⟨_, rfl⟩
 obtain ⟨nb, hnb⟩ : ∃ nb, nb = DC.nextB (DC.getV w (i : Int)).p (i : Int) := ⟨_, rfl⟩
 have hnx := next_is hvm.1 hn
 have hgt := DC.next_gt hvm.1 hn
 rw [← hnb] at hnx hgt
 obtain ⟨q, c, hcell⟩ := H.vote hVv
 obtain ⟨t0, t1, t2, t3⟩ := hcell W (Below.refl _ _)
 rw [← hvt] at t1 t2 t3
 have H0 := h! h0
 have HMS := h! h0.ms
 have HBS := h! hbase
 have HN := h! hn
 have HI := h! hi
 have HVM := h! hvm
 have LEN := h! (And.intro hl hch)
 have HSS := h! hs
 have HNB := h! hnb
 have HNX := h! hnx
 have HGT := h! hgt
 have HVT := h! hvt
 have hi0 : (0 : Int) ≤ (i : Int) := by omega
 have hi2 : (i : Int) < (w.vs.length : Int) := by have := LV6.out; omega
 have hi1 : (i : Int) < (w.ts.length : Int) := by have := LT6.out; omega
 have S1 : Hid (BgS W base g w W.heap.size vt (W.alloc (.cells #[.int .i64 vt.p, .int .i64 vt.b, .string vt.v] 59))) := h! ⟨H.below ((Below.refl _ _).alloc n! _), Box.new _ _ _, Kept.of_below ((Below.refl _ _).alloc n! _), (Below.refl _ _).alloc HBS.out _⟩
 have mixed : Tryz.prog.follows Departure.mixedOrders = true := by kernel_rfl
 clear h0 hn hvm hVv hbase hl hch hs hnx hgt hnb hvt hcell H hi
 go_enter Tryz.func52, Tryz.ntmps52
 go_upto_region 2 with (fail)
 clear t0 t1 t2 t3
 generalize W.alloc (.cells #[.int .i64 vt.p, .int .i64 vt.b, .string vt.v] 59) = u1 at S1 ⊢
 generalize W.heap.size = gv at S1 ⊢
 obtain ⟨v0, v1, v2, _⟩ := S1.out.2.1.three
 rcases Int.lt_or_le 1048576 (BM.rnd (DC.getV w (i : Int)).p (i : Int)) with hr | hr
 ·have HC := h! (next_any (HNX.out.2 hr) u1)
  rw [← HVT.out] at HC
  have HF : Hid (BegPost base g w (i : Int) s W (.returned (.int .i64 9)) u1) := h! (.inl ⟨hr, rfl, S1.out.1, S1.out.2.2.1, S1.out.2.2.2⟩)
  clear hr
  go_wp2_with fail
  refine HC.out.mono ?_
  rintro e w2 ⟨rfl, rfl⟩
  go_wp2_with fail
  go_ret
  exact HF.out
 have HC := h! (next_any (HNX.out.1 hr) u1)
 rw [← HVT.out] at HC
 have HR := h! hr
 have hgood := HGT.out.2.2 hr
 have HGD := h! hgood
 clear hr hgood
 go_wp2_with fail
 refine HC.out.mono ?_
 rintro e w2 ⟨rfl, rfl⟩
 clear HC v0 v1 v2
 obtain ⟨x, y, tv, ee, hprep⟩ := VM.prepIs_ex vt.p vt.b vt.v nb
 have hvm2 : VM.may vt.p vt.b vt.v := by have := HVM.out; rwa [← HVT.out] at this
 have hpg := VM.prep_good hprep hvm2 HGD.out (by have := HGT.out.1; rw [← HVT.out] at this; exact Int.le_of_lt this)
 have bv : (-9223372036854775808 ≤ vt.p ∧ vt.p ≤ 9223372036854775807) ∧ (-9223372036854775808 ≤ vt.b ∧ vt.b ≤ 9223372036854775807) ∧ vt.v.size ≤ maxLen := by
  obtain ⟨hp, hb⟩ := hvm2
  have h1 : 0 ≤ vt.p ∧ vt.p ≤ 9223372036854775807 := by
   rcases hp with h | h
   ·omega
   ·unfold BM.good at h; omega
  refine ⟨by omega, ?_⟩
  rcases hb with ⟨e1, e2⟩ | ⟨_, e1, _, e3⟩
  ·exact ⟨by omega, by rw [e2]; decide⟩
  ·unfold BM.good at e1; exact ⟨by omega, by unfold maxLen; omega⟩
 have HPR := h! (fun W' => VP.prep_any (s := vt.v) W' bv.1.1 bv.1.2 bv.2.1.1 bv.2.1.2 bv.2.2 (by have := HGD.out; unfold BM.good at this; omega) (by have := HGD.out; unfold BM.good at this; omega) hprep)
 obtain ⟨px, py, pt, pe⟩ := hpg
 rw [px, py, pt, pe] at HPR
 clear px py pt pe hprep bv hvm2
 go_upto_region 5 with (fail)
 obtain ⟨q1, c1, hq1, hq1l, d1, _, _, _⟩ := S1.out.1.storeV LV6.out HI.out
 clear hq1 hq1l
 obtain ⟨v0, v1, v2, _⟩ := S1.out.2.1.three
 have hgl := S1.out.1.lt.2
 have hvl := S1.out.2.1.lt
 have CC := h! (fun (w' : World) (hb : Below u1.heap.size u1 w') => (⟨(hb.cell (p := ⟨g, 1, none⟩) hgl).trans d1, (hb.cell (p := ⟨gv, 0, none⟩) hvl).trans v0, (hb.cell (p := ⟨gv, 1, none⟩) hvl).trans v1, (hb.cell (p := ⟨gv, 2, none⟩) hvl).trans v2⟩ : w'.cell? ⟨g, 1, none⟩ = some (.slice (some ⟨q1, 0, none⟩) w.vs.length c1) ∧ w'.cell? ⟨gv, 0, none⟩ = some (.int .i64 vt.p) ∧ w'.cell? ⟨gv, 1, none⟩ = some (.int .i64 vt.b) ∧ w'.cell? ⟨gv, 2, none⟩ = some (.string vt.v)))
 clear v0 v1 v2 hgl hvl d1
 go_cut [9] (fun u9 wx => u9 = .int .i64 0 ∧ BgS W base g ⟨w.ms, w.vs.set i ⟨nb, vt.b, vt.v⟩, w.ts, w.ml, w.ch⟩ gv vt wx)
 case first =>
  have bb1 : Below u1.heap.size u1 u1.drew := (Below.refl _ _).drew
  have hS0 := CC.out _ bb1
  refine wp_region_held_drew (S := fun w' => w'.cell? ⟨g, 1, none⟩ = some (.slice (some ⟨q1, 0, none⟩) w.vs.length c1) ∧ w'.cell? ⟨gv, 0, none⟩ = some (.int .i64 vt.p) ∧ w'.cell? ⟨gv, 1, none⟩ = some (.int .i64 vt.b) ∧ w'.cell? ⟨gv, 2, none⟩ = some (.string vt.v)) (by kernel_rfl) hS0 (fun hHeld => ?_)
  refine qT 0 ?_
  try simp only [Act.put, qq]
  refine qT 1 ?_
  try simp only [Act.put, qq]
  refine qT 2 ?_
  try simp only [Act.put, qq]
  refine qT 3 ?_
  try simp only [Act.put, qq]
  refine qT 4 ?_
  try simp only [Act.put, qq]
  refine qT 5 ?_
  try simp only [Act.put, qq]
  refine qT 6 ?_
  try simp only [Act.put, qq]
  refine qR 7 fun K hK => ?_
  go_simp
  refine (HPR.out _).mono ?_
  rintro e w4 ⟨rfl, hb4⟩
  have bb2 := bmore bb1 hb4 n!
  have hS1 := CC.out _ bb2
  have S2 := S1.out.below bb2 HBS.out
  obtain ⟨q2, c2, hq2, hq2l, d2, hthere, hst, hfar⟩ := S2.1.storeV LV6.out HI.out
  rw [hS1.1] at d2
  injection d2 with d2
  injection d2 with d2 _ d3
  injection d2 with d2
  injection d2 with d2
  subst d2 d3
  obtain ⟨hs1, hs2, hs3, hs4⟩ := hst ⟨nb, vt.b, vt.v⟩
  have hxV := hfar gv _ S2.2.1 rfl (.int .i64 nb) (.int .i64 vt.b) (.string vt.v)
  have NX : Hid (BgS W base g ⟨w.ms, w.vs.set i ⟨nb, vt.b, vt.v⟩, w.ts, w.ml, w.ch⟩ gv vt (putAt3 w4 q1 (i * 3) (.int .i64 nb) (.int .i64 vt.b) (.string vt.v))) :=
   h! ⟨hs1, hxV, S2.2.2.1.trans (hs2.mono fun _ h => tk_of_v h), below_more S2.2.2.2 hs3⟩
  obtain ⟨r0, r1, r2, _⟩ := hxV.three
  have hS2 := And.intro hs4 (And.intro r0 (And.intro r1 r2))
  clear hst hfar hs1 hs2 hs3 hs4 hxV r0 r1 r2 S2 hb4 bb2 hq2 hq2l
  refine hK.out _ _ (hS1) (fun hHeld => ?_)
  clear hK
  try simp only [Act.put, qq]
  refine qT 8 ?_
  try simp only [Act.put, qq]
  refine qT 9 ?_
  try simp only [Act.put, qq]
  refine qT 10 ?_
  try simp only [Act.put, qq]
  refine qT 11 ?_
  try simp only [Act.put, qq]
  refine qR 12 fun K hK => ?_
  refine step_store_mid rfl 59 _ _ rfl q1 (i * 3) #[.int .i64 nb, .int .i64 vt.b, .string vt.v] (by simp [Act.eval, Act.put]) (by simp [Act.eval, Act.put]) hthere (by kernel_rfl) (by simp [Value.oneCell']) ?_
  refine hK.out _ _ (hS2) (fun hHeld => ?_)
  clear hK
  try simp only [Act.put, qq]
  refine qT 13 ?_
  try simp only [Act.put, qq]
  refine wpAnyH_done (by kernel_rfl) ?_ _
  go_wp2_with fail
  go_meet
  case rel => exact ⟨rfl, NX.out⟩
 case rest =>
  obtain ⟨rfl, hcut⟩ := hcut
  clear CC HPR S1
  have S2 := h! hcut
  clear hcut
  have hmsl : w.ms.length ≤ 6 := (QM.may_len HMS.out).2.1
  have hbeg : AM.BegIs w.ms nb s 0 := AM.begIs_zero.2 (by unfold AM.okB; simp only [Bool.and_eq_true, decide_eq_true_eq]; exact ⟨HMS.out, HGD.out, HSS.out⟩)
  obtain ⟨A0, c0, d0, r0⟩ := S2.out.1.mems
  have HBG := h! (fun (W' : World) (hb : Below wc.heap.size wc W') => begin_any A0 w.ms.length c0 w.ms nb s 0 W' (r0.below hb) (by omega) (by have := HGD.out; unfold BM.good at this; omega) (by have := HGD.out; unfold BM.good at this; omega) (by have := HSS.out; unfold maxLen; omega) hbeg)
  simp only [show begAt w.ms nb s 0 = AM.start w.ms nb s by unfold begAt; rw [if_pos rfl]] at HBG
  go_upto_region 8 with (fail)
  obtain ⟨q2, c2, hq2, hq2l, d2, _, _, _⟩ := S2.out.1.storeT LT6.out HI.out
  have hgl := S2.out.1.lt.2
  have CC := h! (fun (w' : World) (hb : Below wc.heap.size wc w') => (⟨(hb.cell (p := ⟨g, 2, none⟩) hgl).trans d2, (hb.cell (p := ⟨g, 0, none⟩) hgl).trans d0⟩ : w'.cell? ⟨g, 2, none⟩ = some (.slice (some ⟨q2, 0, none⟩) w.ts.length c2) ∧ w'.cell? ⟨g, 0, none⟩ = some (.slice A0 w.ms.length c0)))
  clear hq2 hq2l hbeg r0 d0 d2 hgl hmsl
  go_cut [9] (fun u9 wx => u9 = .int .i64 0 ∧ BgS W base g ⟨w.ms, w.vs.set i ⟨nb, vt.b, vt.v⟩, w.ts.set i (AM.start w.ms nb s), w.ml, w.ch⟩ gv vt wx)
  case first =>
   have bb1 : Below wc.heap.size wc wc.drew := (Below.refl _ _).drew
   have hS0 := CC.out _ bb1
   refine wp_region_held_drew (S := fun w' => w'.cell? ⟨g, 2, none⟩ = some (.slice (some ⟨q2, 0, none⟩) w.ts.length c2) ∧ w'.cell? ⟨g, 0, none⟩ = some (.slice A0 w.ms.length c0)) (by kernel_rfl) hS0 (fun hHeld => ?_)
   refine qT 0 ?_
   try simp only [Act.put, qq]
   refine qT 1 ?_
   try simp only [Act.put, qq]
   refine qT 2 ?_
   try simp only [Act.put, qq]
   refine qT 3 ?_
   try simp only [Act.put, qq]
   refine qT 4 ?_
   try simp only [Act.put, qq]
   refine qT 5 ?_
   try simp only [Act.put, qq]
   refine qT 6 ?_
   try simp only [Act.put, qq]
   refine qT 7 ?_
   try simp only [Act.put, qq]
   refine qT 8 ?_
   try simp only [Act.put, qq]
   refine qT 9 ?_
   try simp only [Act.put, qq]
   refine qT 10 ?_
   try simp only [Act.put, qq]
   refine qR 11 fun K hK => ?_
   go_simp
   refine (HBG.out _ bb1).mono ?_
   rintro e w4 ⟨v6, rfl, own, hb6⟩
   obtain ⟨A9, c9, D9, q9, C9, f9, rfl⟩ := start_form own
   have bb2 := bmore bb1 hb6 n!
   have hS1 := CC.out _ bb2
   have S3 := S2.out.below bb2 HBS.out
   obtain ⟨q3, c3, hq3, hq3l, d3, hthere, hst, hfar⟩ := S3.1.storeT LT6.out HI.out
   rw [hS1.1] at d3
   injection d3 with d3
   injection d3 with d3 _ d4
   injection d3 with d3
   injection d3 with d3
   subst d3 d4
   obtain ⟨hs1, hs2, hs3, hs4⟩ := hst (AM.start w.ms nb s) _ _ _ _ _ _ _ (own.mono (Nat.le_trans HBS.out S2.out.2.2.2.size))
   have NX : Hid (BgS W base g ⟨w.ms, w.vs.set i ⟨nb, vt.b, vt.v⟩, w.ts.set i (AM.start w.ms nb s), w.ml, w.ch⟩ gv vt (putAt7 w4 q2 (i * 7) (.int .u8 1) (.int .i64 nb) (.slice A9 w.ms.length c9) (.string s) (.string ⟨#[]⟩) (.slice D9 0 q9) (.slice C9 0 f9))) :=
    h! ⟨hs1, hs2.box _ _ _ (by unfold isA; decide) S3.2.1, S3.2.2.1.trans (hs2.mono fun _ h => tk_of_a h), below_more S3.2.2.2 hs3⟩
   have hS2 := And.intro hs4 ((S3.1.kept_hd (j := 0) hs2 (by unfold isA; decide)).trans hS1.2)
   clear hst hfar hs1 hs2 hs3 hs4 hb6 bb2 own S3 hq3 hq3l
   refine hK.out _ _ (hS1) (fun hHeld => ?_)
   clear hK
   try simp only [Act.put, qq]
   refine qT 12 ?_
   try simp only [Act.put, qq]
   refine qT 13 ?_
   try simp only [Act.put, qq]
   refine qT 14 ?_
   try simp only [Act.put, qq]
   refine qT 15 ?_
   try simp only [Act.put, qq]
   refine qR 16 fun K hK => ?_
   refine step_store_mid rfl 57 _ _ rfl q2 (i * 7) #[.int .u8 1, .int .i64 nb, .slice A9 w.ms.length c9, .string s, .string ⟨#[]⟩, .slice D9 0 q9, .slice C9 0 f9] (by simp [Act.eval, Act.put]) (by simp [Act.eval, Act.put]) hthere (by kernel_rfl) (by simp [Value.oneCell']) ?_
   refine hK.out _ _ (hS2) (fun hHeld => ?_)
   clear hK
   try simp only [Act.put, qq]
   refine qT 17 ?_
   try simp only [Act.put, qq]
   refine wpAnyH_done (by kernel_rfl) ?_ _
   go_wp2_with fail
   go_meet
   case rel => exact ⟨rfl, NX.out⟩
  case rest =>
   obtain ⟨rfl, hcut⟩ := hcut
   clear CC HBG S2
   have S8 := h! hcut
   clear hcut
   have hb1 : DC.begin1 w (i : Int) s = ⟨w.ms, w.vs.set i ⟨nb, vt.b, vt.v⟩, w.ts.set i (AM.start w.ms nb s), w.ml ++ DC.others w.ms (DC.mk (i : Int) 0 1 nb 0 .empty), w.ch⟩ := by
    unfold DC.begin1
    rw [← HNB.out, ← HVT.out, Int.toNat_natCast]
   have hmb := DC.may_begin1 H0.out HN.out HR.out HSS.out
   obtain ⟨ll, lc⟩ := LEN.out
   have hmsl : w.ms.length ≤ 6 := (QM.may_len HMS.out).2.1
   have hol := DC.others_len w.ms (DC.mk (i : Int) 0 1 nb 0 .empty)
   have HO : Hid (∀ u, BgS W base g ⟨w.ms, w.vs.set i ⟨nb, vt.b, vt.v⟩, w.ts.set i (AM.start w.ms nb s), w.ml, w.ch⟩ gv vt u → Calls Tryz.prog 78 #[.pointer (some ⟨g, 0, none⟩), .agg #[.int .i64 (i : Int), .int .i64 0, .int .u8 1, .int .i64 0, .int .i64 0, .int .i64 nb, .int .i64 0, .string ⟨#[]⟩, .int .i64 0, .int .i64 0]] u (OthPost base g ⟨w.ms, w.vs.set i ⟨nb, vt.b, vt.v⟩, w.ts.set i (AM.start w.ms nb s), w.ml, w.ch⟩ (DC.mk (i : Int) 0 1 nb 0 .empty) u)) :=
    h! fun u hu => sendAll_any base g ⟨w.ms, w.vs.set i ⟨nb, vt.b, vt.v⟩, w.ts.set i (AM.start w.ms nb s), w.ml, w.ch⟩ (DC.mk (i : Int) 0 1 nb 0 .empty) u hu.1 (Nat.le_trans HBS.out hu.2.2.2.size) (by show w.ms.length ≤ 2000; omega) (by show w.ml.length ≤ 2000; omega)
   have HTK := h! (fun (W' : World) (h : WdAt W' base g (DC.begin1 w (i : Int) s)) (hbz : base ≤ W'.heap.size) => promised_any base g i (DC.begin1 w (i : Int) s) nb ⟨(i : Int), vt.b, vt.v⟩ W' h hmb HI.out (by
    have hv := HVM.out.2
    rw [← HVT.out] at hv
    rcases hv with ⟨e1, e2⟩ | ⟨_, e2, _, e4⟩
    ·exact ⟨by show _ ≤ vt.b; omega, by show vt.b ≤ _; omega, by show vt.v.size ≤ _; rw [e2]; decide⟩
    ·unfold BM.good at e2
     exact ⟨by show _ ≤ vt.b; omega, by show vt.b ≤ _; omega, by show vt.v.size ≤ _; unfold maxLen; omega⟩) hbz (by rw [hb1]; show (w.ml ++ _).length ≤ 1900; rw [List.length_append]; omega) (by rw [hb1]; show w.ch.length ≤ 1900; omega))
   have HFIN : Hid (∀ wx wy, Kept isTk W wx → Below base W wx → TakPost base g (DC.begin1 w (i : Int) s) (i : Int) nb ⟨(i : Int), vt.b, vt.v⟩ wx (.returned (.tuple #[])) wy → BegPost base g w (i : Int) s W (.returned (.int .i64 0)) wy) := h! fun wx wy hk hb h => .inr ⟨HR.out, rfl, by
    have h2 := h.2.1
    unfold DC.begins
    rw [← HNB.out, ← HVT.out]
    exact h2, hk.trans h.2.2.1, below_more hb h.2.2.2⟩
   have HB1 := h! hb1
   have HM63 := h! (show w.ms.length ≤ 9223372036854775807 by omega)
   clear hb1 hmb ll lc hmsl hol
   go_wp2_with fail
   refine (HO.out _ S8.out).mono ?_
   rintro e w9 ⟨rfl, hW9, hk9, hb9⟩
   clear HO
   have W9 : Hid (WdAt w9 base g (DC.begin1 w (i : Int) s)) := h! (by rw [HB1.out]; exact hW9)
   have X9 := h! (hk9.box _ _ _ (by unfold isWM; decide) S8.out.2.1)
   have K9 := h! (S8.out.2.2.1.trans (hk9.mono fun _ h => tk_of_wm h))
   have B9 := h! (below_more S8.out.2.2.2 hb9)
   clear hW9 hk9 hb9 S8
   obtain ⟨A0, c0, g0, r0⟩ := W9.out.mems
   have hms : (DC.begin1 w (i : Int) s).ms = w.ms := rfl
   rw [hms] at g0 r0
   have HHas := h! (has_any A0 w.ms.length c0 w.ms (i : Int) w9 r0 HM63.out)
   clear hms r0
   rcases hh : QM.has w.ms (i : Int) with _ | _
   ·rw [hh] at HHas
    have HF : Hid (BegPost base g w (i : Int) s W (.returned (.int .i64 0)) w9) := h! (.inr ⟨HR.out, rfl, by rw [begins_alone (by have := LT6.out; have := HI.out; omega) hh]; exact W9.out, K9.out, B9.out⟩)
    clear hh HFIN HTK
    go_wp2_with fail
    refine HHas.out.mono ?_
    rintro e w4 ⟨rfl, rfl⟩
    go_wp2_with fail
    go_ret
    exact HF.out
   rw [hh] at HHas
   clear hh
   obtain ⟨v0, v1, v2, _⟩ := X9.out.three
   go_wp2_with fail
   refine HHas.out.mono ?_
   rintro e w4 ⟨rfl, rfl⟩
   clear HHas g0
   go_wp2_with fail
   refine (HTK.out _ W9.out (Nat.le_trans HBS.out B9.out.size)).mono ?_
   rintro e wz hz
   obtain ⟨rfl, hz2⟩ := hz
   have HZ := h! (HFIN.out _ _ K9.out B9.out ⟨rfl, hz2⟩)
   clear hz2 v0 v1 v2 HTK HFIN
   go_wp2_with fail
   go_ret
   exact HZ.out
end Go.Proofs.YtiiobafcgdelmaaGreat.PD
namespace Go.Proofs.YtiiobafcgdelmaaGreat.PD
open Go.RowKit
theorem run_clear_one {P : Program} (w : World) (t e ty : TypeId) (z : Value) (ht : P.underlying t = some (.slice e)) (hv : ∀ w, (zeroValue e).run P w = .ok z w) (hz : (Builtin.zeroCells z.cells 1).toList = z.cells.toList) (h1 : ∀ u ∈ z.cells.toList, u.oneCell' = true) (b o c : Nat)
  (hc : ∀ j, j < z.cells.toList.length → (w.cell? ⟨b, o + j, none⟩).isSome = true) (hf : ∀ j, j < z.cells.toList.length → w.frozen? ⟨b, o + j, none⟩ = false) :
  (Builtin.clear_ #[t] ty #[.slice (some ⟨b, o, none⟩) 1 c]).run P w = .ok (.tuple #[]) (w.setCells b o z.cells.toList) := by
 have hst := run_storeCells_cells (P := P) b o z.cells.toList 0 w (by simpa using hc) (by simpa using hf) h1
 simp only [Nat.add_zero] at hst
 simp [Builtin.clear_, run_underlying ht, hv, hz, hst]
theorem erase_len {ml : List DC.Ml} {j : Nat} (hj : j < ml.length) : (ml.eraseIdx j).length = ml.length - 1 := by rw [List.length_eraseIdx, if_pos hj]
theorem flat_take {α : Type} {f : α → List Value} {s : Nat} : ∀ (l : List α) (k : Nat), (∀ a ∈ l, (f a).length = s) → (flat f l).take (k * s) = flat f (l.take k)
 | [], k, _ => by simp [flat]
 | a :: l, 0, _ => by simp [flat]
 | a :: l, k + 1, h => by
  have ha := h a (List.mem_cons_self ..)
  rw [flat_cons, List.take_succ_cons, flat_cons, Nat.add_mul, Nat.one_mul, List.take_append, ha, List.take_of_length_le (by omega), Nat.add_sub_cancel, flat_take l k (fun b hb => h b (List.mem_cons_of_mem _ hb))]
theorem flat_drop {α : Type} {f : α → List Value} {s : Nat} : ∀ (l : List α) (k : Nat), (∀ a ∈ l, (f a).length = s) → (flat f l).drop (k * s) = flat f (l.drop k)
 | [], k, _ => by simp [flat]
 | a :: l, 0, _ => by simp [flat]
 | a :: l, k + 1, h => by
  have ha := h a (List.mem_cons_self ..)
  rw [flat_cons, List.drop_succ_cons, Nat.add_mul, Nat.one_mul, List.drop_append, ha, List.drop_eq_nil_of_le (by omega), List.nil_append, Nat.add_sub_cancel, flat_drop l k (fun b hb => h b (List.mem_cons_of_mem _ hb))]
theorem mail10 (ml : List DC.Ml) : ∀ a ∈ ml, (mcell a).length = 10 := fun _ _ => rfl
def zeroM : List Value := [.int .i64 0, .int .i64 0, .int .u8 0, .int .i64 0, .int .i64 0, .int .i64 0, .int .i64 0, .string ⟨#[]⟩, .int .i64 0, .int .i64 0]
def DelIs (base q c n j : Nat) (ml : List DC.Ml) (w : World) (e : Ending) (w' : World) : Prop :=
 e = .returned (.slice (some ⟨q, 0, none⟩) (n - 1) c) ∧ w'.ownsRow base 51 10 (.slice (some ⟨q, 0, none⟩) (n - 1) c) (n - 1) (flat mcell (ml.eraseIdx j)) ∧ w.grownBy w' (some q)
set_option maxRecDepth 100000 in
set_option maxHeartbeats 4000000 in
theorem delete_any (base q c n j : Nat) (ml : List DC.Ml) (w : World) (h : w.ownsRow base 51 10 (.slice (some ⟨q, 0, none⟩) n c) n (flat mcell ml)) (hn : n ≤ 2000) (hj : j < n) :
  Calls Tryz.prog 84 #[.slice (some ⟨q, 0, none⟩) n c, .int .i64 (j : Nat), .int .i64 ((j : Int) + 1)] w (DelIs base q c n j ml w) := by
 obtain ⟨i0, hi0, hz0, hz1, hz2⟩ := info_parts info_mail
 have hv0 : ∀ W : World, (zeroValue 51).run Tryz.prog W = .ok (.agg zeroM.toArray) W := fun W => Tryz.zeroValue51 W
 have hxl : (flat mcell ml).length = n * 10 := h.1
 have hml : ml.length = n := by have := flat_length (f := mcell) (s := 10) (l := ml) (mail10 ml); omega
 rcases h.2 with ⟨h0, _⟩ | ⟨g, cap, cur, hs, hb, hx, hnc, hcm, hsz, htk⟩
 ·cases h0
 injection hs with e1 e2 e3
 injection e1 with e1
 injection e1 with e1
 subst e1 e3
 clear h
 unfold maxLen at hcm
 have hone : ∀ u ∈ flat mcell ml, u.oneCell' = true := one_flat m_one ml
 obtain ⟨xs, hxs⟩ : ∃ xs, xs = flat mcell ml := ⟨_, rfl⟩
 rw [← hxs] at hxl htk hone
 have hxc : ∀ k v, xs[k]? = some v → w.cell? ⟨q, k, none⟩ = some v := by
  intro k v hk
  have hjl := (List.getElem?_eq_some_iff.1 hk).1
  rw [Box.cell (g := q) hx k, ← Array.getElem?_toList, ← hk, ← htk, List.getElem?_take, if_pos (by omega)]
 have hdl : (xs.drop ((j + 1) * 10)).length = (n - (j + 1)) * 10 := by rw [List.length_drop, hxl]; omega
 obtain ⟨A, hA, hsrc⟩ : ∃ A : Addr, (if c = j + 1 then some (⟨q, 0, none⟩ : Addr) else some ⟨q, (j + 1) * 10, none⟩) = some A ∧ Hid (∀ t u, (xs.drop ((j + 1) * 10))[t]? = some u → w.drew.cell? (A.add t) = some u) := by
  by_cases h : c = j + 1
  ·refine ⟨⟨q, 0, none⟩, by simp [h], fun t u hu => ?_⟩
   have h0 : (xs.drop ((j + 1) * 10)).length = 0 := by rw [hdl]; omega
   rw [List.length_eq_zero_iff.1 h0] at hu
   simp at hu
  ·refine ⟨⟨q, (j + 1) * 10, none⟩, by simp [h], fun t u hu => ?_⟩
   rw [Addr.add_lit]
   exact hxc _ _ (by rwa [List.getElem?_drop] at hu)
 have s1 : Hid ((xs.drop ((j + 1) * 10)).length = (n - (j + 1)) * 10) := hdl
 have s2 : Hid (∀ u ∈ xs.drop ((j + 1) * 10), u.oneCell' = true) := fun u hu => hone u (List.mem_of_mem_drop hu)
 have s3 : Hid (∀ t, t < (xs.drop ((j + 1) * 10)).length → (w.drew.cell? ⟨q, 0 + j * 10 + t, none⟩).isSome = true ∧ w.drew.frozen? ⟨q, 0 + j * 10 + t, none⟩ = false) := by
  intro t ht
  rw [hdl] at ht
  exact ⟨Box.isSome (w := w.drew) hx (by omega), Box.frozen (w := w.drew) hx _⟩
 obtain ⟨cu1, bx1, e1⟩ := box_setCells (xs.drop ((j + 1) * 10)) (0 + j * 10) w.drew cur hx (by rw [hdl, hsz]; omega)
 have g1 := grown_setCells q (xs.drop ((j + 1) * 10)) (0 + j * 10) w.drew
 obtain ⟨W1, hW1⟩ : ∃ W1, W1 = w.drew.setCells q (0 + j * 10) (xs.drop ((j + 1) * 10)) := ⟨_, rfl⟩
 rw [← hW1] at bx1 g1
 have hsz1 : cu1.size = cur.size := by rw [← Array.length_toList, e1]; simp [hdl]; omega
 have hcl : ∀ ty cc, (Builtin.clear_ #[25] ty #[.slice (some ⟨q, (n - 1) * 10, none⟩) (n - (n - 1)) cc]).run Tryz.prog W1 = .ok (.tuple #[]) (W1.setCells q ((n - 1) * 10) zeroM) := fun ty cc => by
  rw [show n - (n - 1) = 1 by omega]
  have := run_clear_one (P := Tryz.prog) W1 25 51 ty (.agg zeroM.toArray) Tryz.underlying25 hv0 (by first | kernel_rfl | (simp [Builtin.zeroCells, zeroM, Value.cells])) (by intro u hu; simp [zeroM, Value.cells] at hu; rcases hu with rfl | rfl | rfl | rfl | rfl | rfl | rfl | rfl | rfl | rfl <;> rfl) q ((n - 1) * 10) cc (fun k hk => bx1.isSome (by have hk' : k < 10 := hk; omega)) (fun k hk => bx1.frozen _)
  exact this
 obtain ⟨cu2, bx2, e2⟩ := box_setCells zeroM ((n - 1) * 10) W1 cu1 bx1 (by rw [hsz1, hsz]; show _ + 10 ≤ _; omega)
 have g2 := grown_setCells q zeroM ((n - 1) * 10) W1
 obtain ⟨W2, hW2⟩ : ∃ W2, W2 = W1.setCells q ((n - 1) * 10) zeroM := ⟨_, rfl⟩
 rw [← hW2] at hcl bx2 g2
 have hret : DelIs base q c n j ml w (.returned (.slice (some ⟨q, 0, none⟩) (n - 1) c)) W2 := by
  refine ⟨rfl, ⟨?_, .inr ⟨q, c, cu2, rfl, hb, bx2, by omega, by unfold maxLen; omega, ?_, ?_⟩⟩, grown_more (a := w) ⟨g1.os, g1.tape, g1.output, g1.size, g1.block⟩ g2 (.inl rfl)⟩
  ·rw [flat_length (s := 10) (mail10 _), erase_len (by omega), hml]
  ·rw [← Array.length_toList, e2]
   have : cu1.toList.length = c * 10 := by rw [Array.length_toList, hsz1, hsz]
   simp [zeroM]
   omega
  ·have l1 : cu1.toList.length = c * 10 := by rw [Array.length_toList, hsz1, hsz]
   rw [e2, List.append_assoc, List.take_append_of_le_length (by rw [List.length_take]; omega), List.take_take, Nat.min_self, e1, List.append_assoc]
   have l2 : (cur.toList.take (0 + j * 10)).length = j * 10 := by rw [List.length_take, Array.length_toList, hsz]; omega
   rw [List.take_append, l2]
   have t1 : (cur.toList.take (0 + j * 10)).take ((n - 1) * 10) = cur.toList.take (0 + j * 10) := List.take_of_length_le (by rw [l2]; omega)
   have t2 : (xs.drop ((j + 1) * 10)).take ((n - 1) * 10 - j * 10) = xs.drop ((j + 1) * 10) := List.take_of_length_le (by rw [hdl]; omega)
   rw [t1, List.take_append, t2, hdl, show (n - 1) * 10 - j * 10 - (n - (j + 1)) * 10 = 0 by omega, List.take_zero, List.append_nil]
   rw [show cur.toList.take (0 + j * 10) = xs.take (j * 10) by rw [← htk, List.take_take]; congr 1; omega, hxs, flat_take _ _ (mail10 ml), flat_drop _ _ (mail10 ml), ← flat_append, List.eraseIdx_eq_take_drop_succ]
 have HRET := h! hret
 have hW : Hid (W1 = w.drew.setCells q (0 + j * 10) (xs.drop ((j + 1) * 10))) := hW1
 clear hret bx2 g2 e2 e1 bx1 g1 hsz1 hx hsz htk hxc hW1 hW2 hone hdl hxs hml hxl
 have hic : j ≤ c := by omega
 have hjc : j + 1 ≤ c := by omega
 have hne : ¬ ((j : Int) = (j : Int) + 1) := by omega
 have htn : ((j : Int) + 1).toNat = j + 1 := by omega
 have hb1 : (0 : Int) ≤ (j : Int) + 1 := by omega
 have hb5 : (j : Int) + 1 ≤ (n : Int) := by omega
 have hb6 : (j : Int) ≤ (j : Int) + 1 := by omega
 have hjn : j + (n - (j + 1)) = n - 1 := by omega
 have mixed : Tryz.prog.follows Departure.mixedOrders = true := by kernel_rfl
 go_enter Tryz.func84, Tryz.ntmps84
 go_wp2_with fail
 go_region_law_o (refine step_append_room rfl (.tmp 22) (.tmp 25) 25 rfl 51 i0 10 Tryz.underlying25 hi0 hz1 q 0 j c (by simp [Act.eval, Act.put]) A (n - (j + 1)) (c - (j + 1)) (xs.drop ((j + 1) * 10)) (by simp [Act.eval, Act.put]) s1.out hsrc.out s2.out (by omega) s3.out ?_; rw [← hW.out])
 go_wp2_with fail
 go_ret
 exact HRET.out
end Go.Proofs.YtiiobafcgdelmaaGreat.PD
