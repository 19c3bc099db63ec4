/-
  The walk of SkeenDoes (towncrierlaw15). Conditions: any two clocks, group, command, id. Written by wip/tools/gen/sq/wdoes.py.
-/
import Derived.Test.YtnpgjcapekopnaaGreatK01
import Derived.Test.YtnpgjcapekopnaaGreatSkAp
import Derived.Test.YtnpgjcapekopnaaGreatK12
import Derived.Test.YtnpgjcapekopnaaGreatK08
import Derived.Test.YtnpgjcapekopnaaGreatK14
import Derived.Test.YtnpgjcapekopnaaGreatK13
import Derived.Test.YtnpgjcapekopnaaGreatK15
namespace Go.Proofs.YtnpgjcapekopnaaGreat.KP
open Go.RowKit CP TP
open CM (Mg Cm)
open TM (Sp)
open KM (Wt Sk)
set_option linter.unusedVariables false
set_option linter.unusedSimpArgs false
set_option maxRecDepth 100000
/-- a clock in its variable -/
structure SV (w : World) (g : Nat) (A : Option Addr) (c : Nat) (B : Option Addr) (d : Nat) (s : Sk) : Prop where
  bx : Box w g 25 #[.int .i64 s.c, .slice A s.ws.length c, .slice B s.ds.length d]
  st : SkIs w (.agg #[.int .i64 s.c, .slice A s.ws.length c, .slice B s.ds.length d]) s
theorem SV.below {w w' : World} {g : Nat} {A : Option Addr} {c : Nat} {B : Option Addr} {d : Nat} {s : Sk} (h : SV w g A c B d s) (hb : Below w.heap.size w w') : SV w' g A c B d s := ⟨h.bx.below hb h.bx.lt, h.st.below hb⟩
/-- a command in its variable -/
structure CV (w : World) (g : Nat) (A : Option Addr) (c : Nat) (B : Option Addr) (d : Nat) (x : Cm) : Prop where
  bx : Box w g 30 #[.int .u8 x.k, .int .i64 x.m.id, .slice A x.m.gs.length c, .int .i64 x.m.tp, .string x.m.key, .string x.m.body, .int .i64 x.id, .int .i64 x.tm, .slice B x.ms.length d, .int .i64 x.tp, .int .i64 x.wh, .int .i64 x.n]
  st : CmIs w (.agg #[.int .u8 x.k, .int .i64 x.m.id, .slice A x.m.gs.length c, .int .i64 x.m.tp, .string x.m.key, .string x.m.body, .int .i64 x.id, .int .i64 x.tm, .slice B x.ms.length d, .int .i64 x.tp, .int .i64 x.wh, .int .i64 x.n]) x
theorem CV.below {w w' : World} {g : Nat} {A : Option Addr} {c : Nat} {B : Option Addr} {d : Nat} {s : Cm} (h : CV w g A c B d s) (hb : Below w.heap.size w w') : CV w' g A c B d s := ⟨h.bx.below hb h.bx.lt, h.st.below hb⟩
theorem same_self {w : World} {va vb : Value} {a : Sk} (h1 : SkIs w va a) (h2 : SkIs w vb a) : Calls Tryz.prog 12 #[va, vb] w (IsB true w) := by
  have := rsame15_any va vb a a w h1 h2
  rw [decide_eq_true rfl] at this
  exact this
theorem msgs_self {w : World} {A B : Option Addr} {n ca cb : Nat} {l : List Mg} (h1 : KR KM_ w A n ca l) (h2 : KR KM_ w B n cb l) : Calls Tryz.prog 13 #[.slice A n ca, .slice B n cb] w (IsB true w) := by
  have := rsameMessages_any A B n n ca cb l l w h1 h2
  rw [decide_eq_true rfl] at this
  exact this
theorem cm_self {w : World} {va vb : Value} {a : Cm} (h1 : CmIs w va a) (h2 : CmIs w vb a) : Calls Tryz.prog 19 #[va, vb] w (IsB true w) := by
  have := same12_any a a va vb w h1 h2
  rw [decide_eq_true rfl] at this
  exact this
/-- the word of the last loops: rows of messages that may be stored into -/
structure LR (w : World) (lo hi : Nat) (E : Option Addr) (n : Nat) (wr : World) : Prop where
  wi : Within lo hi w wr
  rs : KOk wr lo hi 28 5 E n
theorem LR.set {w wr : World} {lo hi n g j : Nat} {E : Option Addr} {cs : Array Value} (h : LR w lo hi E n wr) (hb : Box wr g 3 cs) (h1 : lo ≤ g) (h2 : g < hi) (u : Value) : LR w lo hi E n (wr.setCell ⟨g, j, none⟩ u) :=
  ⟨h.wi.setCell h1 h2 u, h.rs.set hb (by decide) u⟩
set_option maxHeartbeats 64000000 in
theorem skeenDoes_walk (v : Value) (x : Sk) (v' : Value) (x' : Sk) (g : Int) (vc : Value) (xc : Cm) (id : Int) (w : World) (hx : SkArg w v x) (hx' : SkArg w v' x') (hg : (Lit.int .i64 g).wf = true) (hc : CmArg w vc xc) (hid : (Lit.int .i64 id).wf = true) :
    Calls Tryz.prog 3 #[v, v', .int .i64 g, vc, .int .i64 id] w fun e w' => e = .returned (.bool true) ∧ Below w.heap.size w w' := by
  obtain ⟨hs, hf⟩ := hx
  obtain ⟨hs', hf'⟩ := hx'
  obtain ⟨hcm, hcf⟩ := hc
  obtain ⟨A, c, B, d, rfl, r1, d1⟩ := hs
  obtain ⟨A', c', B', d', rfl, r1', d1'⟩ := hs'
  obtain ⟨P, q, Q, r, rfl, m1, m2⟩ := hcm
  unfold vsk ccells
  obtain ⟨W1, hW1⟩ : ∃ W1, W1 = ((w.alloc (.cells #[.int .i64 x.c, .slice A x.ws.length c, .slice B x.ds.length d] 25)).alloc (.cells #[.int .i64 x'.c, .slice A' x'.ws.length c', .slice B' x'.ds.length d'] 25)).alloc (.cells #[.int .u8 xc.k, .int .i64 xc.m.id, .slice P xc.m.gs.length q, .int .i64 xc.m.tp, .string xc.m.key, .string xc.m.body, .int .i64 xc.id, .int .i64 xc.tm, .slice Q xc.ms.length r, .int .i64 xc.tp, .int .i64 xc.wh, .int .i64 xc.n] 30) := ⟨_, rfl⟩
  have hb0 : Below w.heap.size w W1 := by rw [hW1]; exact (((Below.refl _ _).alloc (Nat.le_refl _) _).alloc (by simp) _).alloc (by simp; omega) _
  have HB := Lib.hid hb0
  have VS := Lib.hid (show SV W1 w.heap.size A c B d x from ⟨by rw [hW1]; exact ((Box.new w _ _).alloc _).alloc _, SkIs.below ⟨A, c, B, d, rfl, r1, d1⟩ hb0⟩)
  have VO := Lib.hid (show SV W1 (w.heap.size + 1) A' c' B' d' x' from ⟨by rw [hW1]; exact (Box.new_at _ (by simp)).alloc _, SkIs.below ⟨A', c', B', d', rfl, r1', d1'⟩ hb0⟩)
  have VC := Lib.hid (show CV W1 (w.heap.size + 1 + 1) P q Q r xc from ⟨by rw [hW1]; exact Box.new_at _ (by simp), CmIs.below ⟨P, q, Q, r, rfl, m1, m2⟩ hb0⟩)
  have HF := Lib.hid hf
  have HF' := Lib.hid hf'
  have HCF := Lib.hid hcf
  clear r1 d1 r1' d1' m1 m2 hb0 hf hf' hcf hg hid
  go_enter Tryz.func3, Tryz.ntmps3
  go_upto_region 1 with (fail)
  rw [← hW1]
  clear hW1
  obtain ⟨g0, hg0⟩ : ∃ g0, w.heap.size = g0 := ⟨_, rfl⟩
  rw [hg0] at VS VO VC
  simp only [hg0]
  have HG := Lib.hid hg0
  clear hg0
  obtain ⟨x0, x1, x2⟩ := box_sk VS.out.bx
  go_wp2_with fail
  clear x0 x1 x2
  refine (rgreat15_any _ x W1 VS.out.st HF.out).mono ?_
  rintro e w2 ⟨gr, rfl, hfew, hb⟩
  replace HB := Lib.hid (bmore HB.out hb (Nat.le_refl _))
  replace VS := Lib.hid (VS.out.below hb)
  replace VO := Lib.hid (VO.out.below hb)
  replace VC := Lib.hid (VC.out.below hb)
  rcases gr with _ | _
  rotate_left
  · go_wp2_with fail
    go_ret
    exact ⟨rfl, by have := HB.out; rwa [HG.out] at this⟩
  have HFEW := Lib.hid (hfew rfl)
  clear hb hfew
  obtain ⟨x0, x1, x2⟩ := box_sk VO.out.bx
  go_wp2_with fail
  clear x0 x1 x2
  refine (rgreat15_any _ x' w2 VO.out.st HF'.out).mono ?_
  rintro e w3 ⟨gr, rfl, hfew, hb⟩
  replace HB := Lib.hid (bmore HB.out hb (Nat.le_refl _))
  replace VS := Lib.hid (VS.out.below hb)
  replace VO := Lib.hid (VO.out.below hb)
  replace VC := Lib.hid (VC.out.below hb)
  rcases gr with _ | _
  rotate_left
  · go_wp2_with fail
    go_ret
    exact ⟨rfl, by have := HB.out; rwa [HG.out] at this⟩
  clear hb hfew
  obtain ⟨sz, hw5⟩ : ∃ sz : Int, IntKind.i64.wrap ((xc.m.key.size : Int) + (xc.m.body.size : Int)) = sz := ⟨_, rfl⟩
  obtain ⟨a0, a1, a2, a3, a4, a5, a6, a7, a8, a9, a10, a11⟩ := box_cm VC.out.bx
  by_cases h3 : 1000 < xc.m.gs.length
  · have t3 : decide ((1000 : Int) < (xc.m.gs.length : Int)) = true := by rw [decide_eq_true_iff]; omega
    go_wp2_with fail
    go_ret
    exact ⟨rfl, by have := HB.out; rwa [HG.out] at this⟩
  have t3 : decide ((1000 : Int) < (xc.m.gs.length : Int)) = false := by rw [decide_eq_false_iff_not]; omega
  by_cases h4 : 5000 < sz
  · have t4 : decide ((5000 : Int) < sz) = true := by rw [decide_eq_true_iff]; omega
    go_wp2_with fail
    go_ret
    exact ⟨rfl, by have := HB.out; rwa [HG.out] at this⟩
  have t4 : decide ((5000 : Int) < sz) = false := by rw [decide_eq_false_iff_not]; omega
  by_cases h5 : 1000 < xc.ms.length
  · have t5 : decide ((1000 : Int) < (xc.ms.length : Int)) = true := by rw [decide_eq_true_iff]; omega
    go_wp2_with fail
    go_ret
    exact ⟨rfl, by have := HB.out; rwa [HG.out] at this⟩
  have t5 : decide ((1000 : Int) < (xc.ms.length : Int)) = false := by rw [decide_eq_false_iff_not]; omega
  go_upto_region 3 with (fail)
  clear hw5 t3 t4 t5 a0 a1 a2 a3 a4 a5 a6 a7 a8 a9 a10 a11
  have HGS := Lib.hid (show xc.m.gs.length ≤ 1000 by omega)
  have HMS := Lib.hid (show xc.ms.length ≤ 1000 by omega)
  have HGL := Lib.hid (show g0 ≤ w3.heap.size by have := HB.out.size; have := HG.out; omega)
  clear h3 h4 h5
  have hl1 : x.ws.length ≤ 4096 := by have := HFEW.out.1; omega
  have hl2 : x.ds.length ≤ 4096 := by have := HFEW.out.2; omega
  have HL := Lib.hid (And.intro hl1 hl2)
  clear hl1 hl2
  obtain ⟨x0, x1, x2⟩ := box_sk VS.out.bx
  obtain ⟨a0, a1, a2, a3, a4, a5, a6, a7, a8, a9, a10, a11⟩ := box_cm VC.out.bx
  have KT := Lib.hid (fun W (h : Below w3.heap.size w3 W) => rtwin15_any _ x W (VS.out.below h).st HL.out.1 HL.out.2 (fun y hy => (HF.out.2.1 y hy).2))
  have KC := Lib.hid (fun W (h : Below w3.heap.size w3 W) => CP.twin12_ge xc _ W (VC.out.below h).st (by have := HGS.out; omega) (by have := HMS.out; omega))
  have HSS := Lib.hid (fun (w' : World) (h : Below w3.heap.size w3 w') => show w'.cell? ⟨g0, 0, none⟩ = some (.int .i64 x.c) ∧ w'.cell? ⟨g0, 1, none⟩ = some (.slice A x.ws.length c) ∧ w'.cell? ⟨g0, 2, none⟩ = some (.slice B x.ds.length d) ∧ w'.cell? ⟨g0 + 1 + 1, 0, none⟩ = some (.int .u8 xc.k) ∧ w'.cell? ⟨g0 + 1 + 1, 1, none⟩ = some (.int .i64 xc.m.id) ∧ w'.cell? ⟨g0 + 1 + 1, 2, none⟩ = some (.slice P xc.m.gs.length q) ∧ w'.cell? ⟨g0 + 1 + 1, 3, none⟩ = some (.int .i64 xc.m.tp) ∧ w'.cell? ⟨g0 + 1 + 1, 4, none⟩ = some (.string xc.m.key) ∧ w'.cell? ⟨g0 + 1 + 1, 5, none⟩ = some (.string xc.m.body) ∧ w'.cell? ⟨g0 + 1 + 1, 6, none⟩ = some (.int .i64 xc.id) ∧ w'.cell? ⟨g0 + 1 + 1, 7, none⟩ = some (.int .i64 xc.tm) ∧ w'.cell? ⟨g0 + 1 + 1, 8, none⟩ = some (.slice Q xc.ms.length r) ∧ w'.cell? ⟨g0 + 1 + 1, 9, none⟩ = some (.int .i64 xc.tp) ∧ w'.cell? ⟨g0 + 1 + 1, 10, none⟩ = some (.int .i64 xc.wh) ∧ w'.cell? ⟨g0 + 1 + 1, 11, none⟩ = some (.int .i64 xc.n) from
    ⟨(h.cell (cell_block x0)).trans x0, (h.cell (cell_block x1)).trans x1, (h.cell (cell_block x2)).trans x2, (h.cell (cell_block a0)).trans a0, (h.cell (cell_block a1)).trans a1, (h.cell (cell_block a2)).trans a2, (h.cell (cell_block a3)).trans a3, (h.cell (cell_block a4)).trans a4, (h.cell (cell_block a5)).trans a5, (h.cell (cell_block a6)).trans a6, (h.cell (cell_block a7)).trans a7, (h.cell (cell_block a8)).trans a8, (h.cell (cell_block a9)).trans a9, (h.cell (cell_block a10)).trans a10, (h.cell (cell_block a11)).trans a11⟩)
  have bb1 : Below w3.heap.size w3 w3.drew := (Below.refl _ _).drew
  clear x0 x1 x2 a0 a1 a2 a3 a4 a5 a6 a7 a8 a9 a10 a11
  obtain ⟨ud, hud⟩ : ∃ ud, ud = w3.drew := ⟨_, rfl⟩
  refine wp_region_held_drew (S := fun w' => w'.cell? ⟨g0, 0, none⟩ = some (.int .i64 x.c) ∧ w'.cell? ⟨g0, 1, none⟩ = some (.slice A x.ws.length c) ∧ w'.cell? ⟨g0, 2, none⟩ = some (.slice B x.ds.length d) ∧ w'.cell? ⟨g0 + 1 + 1, 0, none⟩ = some (.int .u8 xc.k) ∧ w'.cell? ⟨g0 + 1 + 1, 1, none⟩ = some (.int .i64 xc.m.id) ∧ w'.cell? ⟨g0 + 1 + 1, 2, none⟩ = some (.slice P xc.m.gs.length q) ∧ w'.cell? ⟨g0 + 1 + 1, 3, none⟩ = some (.int .i64 xc.m.tp) ∧ w'.cell? ⟨g0 + 1 + 1, 4, none⟩ = some (.string xc.m.key) ∧ w'.cell? ⟨g0 + 1 + 1, 5, none⟩ = some (.string xc.m.body) ∧ w'.cell? ⟨g0 + 1 + 1, 6, none⟩ = some (.int .i64 xc.id) ∧ w'.cell? ⟨g0 + 1 + 1, 7, none⟩ = some (.int .i64 xc.tm) ∧ w'.cell? ⟨g0 + 1 + 1, 8, none⟩ = some (.slice Q xc.ms.length r) ∧ w'.cell? ⟨g0 + 1 + 1, 9, none⟩ = some (.int .i64 xc.tp) ∧ w'.cell? ⟨g0 + 1 + 1, 10, none⟩ = some (.int .i64 xc.wh) ∧ w'.cell? ⟨g0 + 1 + 1, 11, none⟩ = some (.int .i64 xc.n)) (by kernel_rfl) (HSS.out _ bb1) (fun hHeld => ?_)
  rw [← hud] at bb1 hHeld ⊢
  clear hud
  refine qT 0 ?_; try simp only [Act.put, qq]
  refine qT 2 ?_; try simp only [Act.put, qq]
  refine inv4_start (J := fun b1 b3 b4 b5 b6 b7 u1 u2 p1 p2 W => Below w3.heap.size w3 W ∧ VA w3.heap.size x b1 b4 b6 u1 p1 W ∧ VB w3.heap.size xc b3 b5 b7 u2 p2 W) rfl rfl rfl rfl rfl rfl ?hr (fun _ _ _ _ _ _ _ _ _ _ _ h => h.2.1.2.2) (fun _ _ _ _ _ _ _ _ _ _ _ h => h.2.2.2.2) ?e1 ?e3 ?e4 ?e5 ?e6 ?e7 ?hq (by kernel_rfl) (by decide) ?hst
  case hst => intro u1 u2 p1 p2; exact ⟨bb1, ⟨fun e => (by cases e), fun e => (by cases e), fun e => (by cases e)⟩, ⟨fun e => (by cases e), fun e => (by cases e), fun e => (by cases e)⟩⟩
  case hr => intro b1 b3 b4 b5 b6 b7; cases b1 <;> cases b3 <;> cases b4 <;> cases b5 <;> cases b6 <;> cases b7 <;> kernel_rfl
  case e1 =>
    intro b3 b4 b5 b7 u1 u2 p1 p2 W hJ K hK
    obtain ⟨hbl, hva, hvb⟩ := hJ
    have hK' := hK.out
    clear hK hHeld
    simp only [put4, Act.put, qq] at hK' ⊢
    have HK := Lib.hid hK'
    clear hK'
    go_simp
    refine (KT.out W hbl).mono ?_
    rintro e W' ⟨vv, rfl, ho, hb⟩
    have hb2 := bmore hbl hb (Nat.le_refl _)
    exact HK.out _ _ (HSS.out _ hb2) ⟨hb2, hva.call hb hbl.size ho, hvb.below hb⟩
  case e3 =>
    intro b1 b4 b5 b6 u1 u2 p1 p2 W hJ K hK
    obtain ⟨hbl, hva, hvb⟩ := hJ
    have hK' := hK.out
    clear hK hHeld
    simp only [put4, Act.put, qq] at hK' ⊢
    have HK := Lib.hid hK'
    clear hK'
    go_simp
    refine (KC.out W hbl).mono ?_
    rintro e W' ⟨vv, rfl, ho, hb⟩
    have hb2 := bmore hbl hb (Nat.le_refl _)
    exact HK.out _ _ (HSS.out _ hb2) ⟨hb2, hva.below hb, hvb.call hb hbl.size ho⟩
  case e4 =>
    intro b1 b3 b5 b7 u1 u2 p1 p2 W hJ K hK
    obtain ⟨hbl, hva, hvb⟩ := hJ
    have hK' := hK.out
    clear hK hHeld
    simp only [put4, Act.put, qq] at hK' ⊢
    have HK := Lib.hid hK'
    clear hK'
    go_simp
    have hal : Below W.heap.size W (W.alloc (.cells #[.int .i64 0, .slice none 0 0, .slice none 0 0] 25)) := (Below.refl _ _).alloc (Nat.le_refl _) _
    have hb2 := bmore hbl hal (Nat.le_refl _)
    exact HK.out _ _ (HSS.out _ hb2) ⟨hb2, hva.new hbl.size _ _ _, hvb.below hal⟩
  case e5 =>
    intro b1 b3 b4 b6 u1 u2 p1 p2 W hJ K hK
    obtain ⟨hbl, hva, hvb⟩ := hJ
    have hK' := hK.out
    clear hK hHeld
    simp only [put4, Act.put, qq] at hK' ⊢
    have HK := Lib.hid hK'
    clear hK'
    go_simp
    have hal : Below W.heap.size W (W.alloc (.cells #[.int .u8 0, .int .i64 0, .slice none 0 0, .int .i64 0, .string .empty, .string .empty, .int .i64 0, .int .i64 0, .slice none 0 0, .int .i64 0, .int .i64 0, .int .i64 0] 30)) := (Below.refl _ _).alloc (Nat.le_refl _) _
    have hb2 := bmore hbl hal (Nat.le_refl _)
    exact HK.out _ _ (HSS.out _ hb2) ⟨hb2, hva.below hal, hvb.new hbl.size _ _ _ _ _ _ _ _ _ _ _ _⟩
  case e6 =>
    intro b3 b5 b7 u1 u2 p1 p2 W hJ K hK
    obtain ⟨hbl, hva, hvb⟩ := hJ
    have hK' := hK.out
    clear hK hHeld
    simp only [put4, Act.put, qq] at hK' ⊢
    have HK := Lib.hid hK'
    clear hK'
    obtain ⟨⟨Aw, cw, Bw, dw, rfl⟩, _⟩ := hva.1 rfl
    obtain ⟨gq, z0, z1, z2, rfl, hgq, hbx, _⟩ := hva.2.1 rfl
    obtain ⟨q0, q1, q2, q3, q4, q5⟩ := hbx.three
    go_simp
    have hb2 := below_put3 hbl hgq (.int .i64 x.c) (.slice Aw x.ws.length cw) (.slice Bw x.ds.length dw)
    exact HK.out _ (HSS.out _ hb2) ⟨hb2, hva.store hgq hbx, hvb.kept (kept_put3 hbx _ _ _) (by decide) (by decide)⟩
  case e7 =>
    intro b1 b4 b6 u1 u2 p1 p2 W hJ K hK
    obtain ⟨hbl, hva, hvb⟩ := hJ
    have hK' := hK.out
    clear hK hHeld
    simp only [put4, Act.put, qq] at hK' ⊢
    have HK := Lib.hid hK'
    clear hK'
    obtain ⟨Pi, qi, Qi, ri, hu, _⟩ := hvb.1 rfl
    unfold ccells at hu
    subst hu
    obtain ⟨gq, z0, z1, z2, z3, z4, z5, z6, z7, z8, z9, z10, z11, rfl, hgq, hbx, _⟩ := hvb.2.1 rfl
    obtain ⟨q0, q1, q2, q3, q4, q5, q6, q7, q8, q9, q10, q11⟩ := box_cm hbx
    have f0 := hbx.frozen 0
    have f1 := hbx.frozen 1
    have f2 := hbx.frozen 2
    have f3 := hbx.frozen 3
    have f4 := hbx.frozen 4
    have f5 := hbx.frozen 5
    have f6 := hbx.frozen 6
    have f7 := hbx.frozen 7
    have f8 := hbx.frozen 8
    have f9 := hbx.frozen 9
    have f10 := hbx.frozen 10
    have f11 := hbx.frozen 11
    go_simp
    have hb2 := put12_below hbl hgq (.int .u8 xc.k) (.int .i64 xc.m.id) (.slice Pi xc.m.gs.length qi) (.int .i64 xc.m.tp) (.string xc.m.key) (.string xc.m.body) (.int .i64 xc.id) (.int .i64 xc.tm) (.slice Qi xc.ms.length ri) (.int .i64 xc.tp) (.int .i64 xc.wh) (.int .i64 xc.n)
    exact HK.out _ (HSS.out _ hb2) ⟨hb2, hva.kept (kept_put12 hbx _ _ _ _ _ _ _ _ _ _ _ _) (by decide) (by decide) (by decide) (by decide), hvb.store hgq hbx⟩
  case hq =>
  intro u1 u2 p1 p2 w5 hJ
  clear hHeld HSS KT KC bb1
  obtain ⟨hbl, hva, hvb⟩ := hJ
  obtain ⟨⟨A1, c1, B1, d1, rfl⟩, hso⟩ := hva.1 rfl
  obtain ⟨gw, z0, z1, z2, rfl, hgw, hbw, hea⟩ := hva.2.1 rfl
  have hea2 := hea rfl
  simp only [Value.agg.injEq, Array.mk.injEq, List.cons.injEq, and_true] at hea2
  obtain ⟨rfl, rfl, rfl⟩ := hea2
  obtain ⟨P1, q1, Q1, r1, hu, hr1, hr2⟩ := hvb.1 rfl
  unfold ccells at hu
  subst hu
  obtain ⟨gi, y0, y1, y2, y3, y4, y5, y6, y7, y8, y9, y10, y11, rfl, hgi, hbi, heb⟩ := hvb.2.1 rfl
  have heb2 := heb rfl
  simp only [Value.agg.injEq, Array.mk.injEq, List.cons.injEq, and_true] at heb2
  obtain ⟨rfl, rfl, rfl, rfl, rfl, rfl, rfl, rfl, rfl, rfl, rfl, rfl⟩ := heb2
  have VW := Lib.hid (show SV w5 gw A1 c1 B1 d1 x from ⟨hbw, hso.is⟩)
  have VI := Lib.hid (show CV w5 gi P1 q1 Q1 r1 xc from ⟨hbi, ⟨P1, q1, Q1, r1, rfl, hr1.is, hr2.is⟩⟩)
  replace HB := Lib.hid (bmore HB.out hbl (Nat.le_refl _))
  replace HGL := Lib.hid (show g0 ≤ w5.heap.size from Nat.le_trans HGL.out hbl.size)
  replace VS := Lib.hid (VS.out.below hbl)
  replace VO := Lib.hid (VO.out.below hbl)
  replace VC := Lib.hid (VC.out.below hbl)
  clear hbl hva hvb hso hbw hea hr1 hr2 hbi heb hgw hgi
  simp only [put4, Act.put, qq]
  go_upto_region 4 with (fail)
  have VS5 := Lib.hid VS.out
  have VC5 := Lib.hid VC.out
  have VW5 := Lib.hid VW.out
  have VI5 := Lib.hid VI.out
  have BL5 := Lib.hid (Below.refl w5.heap.size w5)
  have CPA := Lib.hid (fun W u uc (h : SkIs W u x) (h2 : CmIs W uc xc) => papply15 u x g uc xc W h HF.out h2 HCF.out (by have := HGS.out; omega))
  have CRA := Lib.hid (fun W u uc (h : SkIs W u x) (h2 : CmIs W uc xc) => rapply15_any u x g uc xc W h HF.out h2 HCF.out (by have := HGS.out; omega))
  obtain ⟨R, hR⟩ : ∃ R, R = KM.applyF x g xc := ⟨_, rfl⟩
  rw [← hR] at CPA CRA
  clear hR
  obtain ⟨y, ms, er⟩ := R
  unfold ApIs at CPA CRA
  simp only at CPA CRA
  obtain ⟨x0, x1, x2⟩ := box_sk VW.out.bx
  obtain ⟨a0, a1, a2, a3, a4, a5, a6, a7, a8, a9, a10, a11⟩ := box_cm VI.out.bx
  go_wp2_with fail
  clear x0 x1 x2 a0 a1 a2 a3 a4 a5 a6 a7 a8 a9 a10 a11
  refine (CPA.out w5 _ _ VW.out.st VI.out.st).mono ?_
  rintro e w6 ⟨v6, vm6, rfl, hso, hkm, hb⟩
  obtain ⟨A2, c2, B2, d2, rfl, hkr⟩ := SkO.rows hso
  obtain ⟨E6, f6, rfl, hkg⟩ := hkm.g
  unfold vsk at hso
  unfold vsk
  have hal : Below w6.heap.size w6 (w6.alloc (.cells #[.int .i64 y.c, .slice A2 y.ws.length c2, .slice B2 y.ds.length d2] 25)) := (Below.refl _ _).alloc (Nat.le_refl _) _
  have hbb := bmore hb hal (Nat.le_refl _)
  have VX := Lib.hid (show SV (w6.alloc (.cells #[.int .i64 y.c, .slice A2 y.ws.length c2, .slice B2 y.ds.length d2] 25)) w6.heap.size A2 c2 B2 d2 y from ⟨Box.new _ _ _, hso.is.below hal⟩)
  have RX := Lib.hid (hkr.below hal)
  have ML := Lib.hid (hkg.r.below hal)
  have RL := Lib.hid (KOk.below (kOk_own (K := KM_) (fun _ _ _ => rfl) (by decide) hkm) hal)
  have HX1 := Lib.hid (show w5.heap.size ≤ w6.heap.size from hb.size)
  have HX2 := Lib.hid (show w6.heap.size < (w6.alloc (.cells #[.int .i64 y.c, .slice A2 y.ws.length c2, .slice B2 y.ds.length d2] 25)).heap.size by simp)
  have HML := Lib.hid hkg.r.small
  have HMX := Lib.hid (And.intro (sk_small hso.is).1 (sk_small hso.is).2)
  replace HB := Lib.hid (bmore HB.out hbb (Nat.le_refl _))
  replace BL5 := Lib.hid (bmore BL5.out hbb (Nat.le_refl _))
  replace VS := Lib.hid (VS.out.below hbb)
  replace VO := Lib.hid (VO.out.below hbb)
  replace VC := Lib.hid (VC.out.below hbb)
  replace VW := Lib.hid (VW.out.below hbb)
  replace VI := Lib.hid (VI.out.below hbb)
  clear hso hkr hkm hkg hb hal hbb CPA
  go_upto_region 5 with (fail)
  generalize w6.alloc (.cells #[.int .i64 y.c, .slice A2 y.ws.length c2, .slice B2 y.ds.length d2] 25) = w7 at HB BL5 VS VO VC VW VI VX RX ML RL HX2 ⊢
  generalize w6.heap.size = gx at VX RX RL HX1 HX2 ⊢
  obtain ⟨x0, x1, x2⟩ := box_sk VS.out.bx
  obtain ⟨a0, a1, a2, a3, a4, a5, a6, a7, a8, a9, a10, a11⟩ := box_cm VC.out.bx
  go_wp2_with fail
  clear x0 x1 x2 a0 a1 a2 a3 a4 a5 a6 a7 a8 a9 a10 a11
  refine (CRA.out w7 _ _ VS.out.st VC.out.st).mono ?_
  rintro e w8 ⟨v8, vm8, rfl, hso, hkm, hb⟩
  obtain ⟨A3, c3, B3, d3, rfl, _⟩ := SkO.rows hso
  obtain ⟨E8, f8, rfl, hkg⟩ := hkm.g
  unfold vsk at hso
  unfold vsk
  have hal : Below w8.heap.size w8 (w8.alloc (.cells #[.int .i64 y.c, .slice A3 y.ws.length c3, .slice B3 y.ds.length d3] 25)) := (Below.refl _ _).alloc (Nat.le_refl _) _
  have hbb := bmore hb hal (Nat.le_refl _)
  have VY := Lib.hid (show SV (w8.alloc (.cells #[.int .i64 y.c, .slice A3 y.ws.length c3, .slice B3 y.ds.length d3] 25)) w8.heap.size A3 c3 B3 d3 y from ⟨Box.new _ _ _, hso.is.below hal⟩)
  have MM := Lib.hid (hkg.r.below hal)
  replace HX2 := Lib.hid (Nat.lt_of_lt_of_le HX2.out hbb.size)
  replace HB := Lib.hid (bmore HB.out hbb (Nat.le_refl _))
  replace BL5 := Lib.hid (bmore BL5.out hbb (Nat.le_refl _))
  replace VS := Lib.hid (VS.out.below hbb)
  replace VO := Lib.hid (VO.out.below hbb)
  replace VC := Lib.hid (VC.out.below hbb)
  replace VW := Lib.hid (VW.out.below hbb)
  replace VI := Lib.hid (VI.out.below hbb)
  replace VX := Lib.hid (VX.out.below hbb)
  replace RX := Lib.hid (RX.out.below hbb)
  replace ML := Lib.hid (ML.out.below hbb)
  replace RL := Lib.hid (RL.out.below hbb)
  clear hso hkm hkg hb hal hbb CRA
  go_upto_region 6 with (fail)
  generalize w8.alloc (.cells #[.int .i64 y.c, .slice A3 y.ws.length c3, .slice B3 y.ds.length d3] 25) = w9 at HB BL5 VS VO VC VW VI VX RX ML RL VY MM HX2 ⊢
  generalize w8.heap.size = gy at VY ⊢
  have CL1 := Lib.hid (fun W u (h : SkIs W u x) => plocal15_any u x id W h HF.out)
  have CL2 := Lib.hid (fun W u (h : SkIs W u x) => rlocal15_any u x id W h HF.out)
  obtain ⟨lo, hlo⟩ : ∃ lo, lo = KM.localF x id := ⟨_, rfl⟩
  rw [← hlo] at CL1 CL2
  clear hlo
  obtain ⟨la, lp, le⟩ := lo
  unfold LocQ at CL1
  unfold LocIs at CL2
  simp only at CL1 CL2
  obtain ⟨x0, x1, x2⟩ := box_sk VW.out.bx
  go_wp2_with fail
  clear x0 x1 x2
  refine (CL1.out w9 _ VW.out.st).mono ?_
  rintro e wa ⟨rfl, hb⟩
  replace HX2 := Lib.hid (Nat.lt_of_lt_of_le HX2.out hb.size)
  replace HB := Lib.hid (bmore HB.out hb (Nat.le_refl _))
  replace BL5 := Lib.hid (bmore BL5.out hb (Nat.le_refl _))
  replace VS := Lib.hid (VS.out.below hb)
  replace VO := Lib.hid (VO.out.below hb)
  replace VC := Lib.hid (VC.out.below hb)
  replace VW := Lib.hid (VW.out.below hb)
  replace VI := Lib.hid (VI.out.below hb)
  replace VX := Lib.hid (VX.out.below hb)
  replace RX := Lib.hid (RX.out.below hb)
  replace ML := Lib.hid (ML.out.below hb)
  replace RL := Lib.hid (RL.out.below hb)
  replace VY := Lib.hid (VY.out.below hb)
  replace MM := Lib.hid (MM.out.below hb)
  clear hb CL1
  go_upto_region 7 with (fail)
  obtain ⟨x0, x1, x2⟩ := box_sk VS.out.bx
  go_wp2_with fail
  clear x0 x1 x2
  refine (CL2.out wa _ VS.out.st).mono ?_
  rintro e wb ⟨rfl, hb⟩
  replace HX2 := Lib.hid (Nat.lt_of_lt_of_le HX2.out hb.size)
  replace HB := Lib.hid (bmore HB.out hb (Nat.le_refl _))
  replace BL5 := Lib.hid (bmore BL5.out hb (Nat.le_refl _))
  replace VS := Lib.hid (VS.out.below hb)
  replace VO := Lib.hid (VO.out.below hb)
  replace VC := Lib.hid (VC.out.below hb)
  replace VW := Lib.hid (VW.out.below hb)
  replace VI := Lib.hid (VI.out.below hb)
  replace VX := Lib.hid (VX.out.below hb)
  replace RX := Lib.hid (RX.out.below hb)
  replace ML := Lib.hid (ML.out.below hb)
  replace RL := Lib.hid (RL.out.below hb)
  replace VY := Lib.hid (VY.out.below hb)
  replace MM := Lib.hid (MM.out.below hb)
  clear hb CL2
  go_upto_region 8 with (fail)
  obtain ⟨x0, x1, x2⟩ := box_sk VW.out.bx
  go_wp2_with fail
  clear x0 x1 x2
  refine (ptwin15_any _ x wb VW.out.st HL.out.1 HL.out.2 (fun y hy => (HF.out.2.1 y hy).2)).mono ?_
  rintro e wc ⟨vt, rfl, hso, hb⟩
  obtain ⟨A4, c4, B4, d4, rfl, hkr⟩ := SkO.rows hso
  unfold vsk at hso
  unfold vsk
  have hal : Below wc.heap.size wc (wc.alloc (.cells #[.int .i64 x.c, .slice A4 x.ws.length c4, .slice B4 x.ds.length d4] 25)) := (Below.refl _ _).alloc (Nat.le_refl _) _
  have hbb := bmore hb hal (Nat.le_refl _)
  have VT := Lib.hid (show SV (wc.alloc (.cells #[.int .i64 x.c, .slice A4 x.ws.length c4, .slice B4 x.ds.length d4] 25)) wc.heap.size A4 c4 B4 d4 x from ⟨Box.new _ _ _, hso.is.below hal⟩)
  have RT := Lib.hid (hkr.below hal)
  have HT1 := Lib.hid (show wb.heap.size ≤ wc.heap.size from hb.size)
  have HT2 := Lib.hid (show wc.heap.size < (wc.alloc (.cells #[.int .i64 x.c, .slice A4 x.ws.length c4, .slice B4 x.ds.length d4] 25)).heap.size by simp)
  have HX3 := Lib.hid HX2.out
  have HMT := Lib.hid (And.intro (sk_small hso.is).1 (sk_small hso.is).2)
  replace HX2 := Lib.hid (Nat.lt_of_lt_of_le HX2.out hbb.size)
  replace HB := Lib.hid (bmore HB.out hbb (Nat.le_refl _))
  replace BL5 := Lib.hid (bmore BL5.out hbb (Nat.le_refl _))
  replace VS := Lib.hid (VS.out.below hbb)
  replace VO := Lib.hid (VO.out.below hbb)
  replace VC := Lib.hid (VC.out.below hbb)
  replace VW := Lib.hid (VW.out.below hbb)
  replace VI := Lib.hid (VI.out.below hbb)
  replace VX := Lib.hid (VX.out.below hbb)
  replace RX := Lib.hid (RX.out.below hbb)
  replace ML := Lib.hid (ML.out.below hbb)
  replace RL := Lib.hid (RL.out.below hbb)
  replace VY := Lib.hid (VY.out.below hbb)
  replace MM := Lib.hid (MM.out.below hbb)
  clear hso hkr hb hal hbb
  go_upto_region 9 with (fail)
  generalize wc.alloc (.cells #[.int .i64 x.c, .slice A4 x.ws.length c4, .slice B4 x.ds.length d4] 25) = wA at HB BL5 VS VO VC VW VI VX RX ML RL VY MM VT RT HX2 HT2 ⊢
  generalize wc.heap.size = gt at VT RT HT1 HT2 ⊢
  obtain ⟨s0, s1, s2⟩ := box_sk VS.out.bx
  obtain ⟨o0, o1, o2⟩ := box_sk VO.out.bx
  obtain ⟨p0, p1, p2⟩ := box_sk VW.out.bx
  obtain ⟨q0, q1, q2⟩ := box_sk VX.out.bx
  obtain ⟨k0, k1, k2⟩ := box_sk VY.out.bx
  obtain ⟨t0, t1, t2⟩ := box_sk VT.out.bx
  have HSS := Lib.hid (fun (w' : World) (h : Below wA.heap.size wA w') => show w'.cell? ⟨g0, 0, none⟩ = some (.int .i64 x.c) ∧ w'.cell? ⟨g0, 1, none⟩ = some (.slice A x.ws.length c) ∧ w'.cell? ⟨g0, 2, none⟩ = some (.slice B x.ds.length d) ∧ w'.cell? ⟨g0 + 1, 0, none⟩ = some (.int .i64 x'.c) ∧ w'.cell? ⟨g0 + 1, 1, none⟩ = some (.slice A' x'.ws.length c') ∧ w'.cell? ⟨g0 + 1, 2, none⟩ = some (.slice B' x'.ds.length d') ∧ w'.cell? ⟨gw, 0, none⟩ = some (.int .i64 x.c) ∧ w'.cell? ⟨gw, 1, none⟩ = some (.slice A1 x.ws.length c1) ∧ w'.cell? ⟨gw, 2, none⟩ = some (.slice B1 x.ds.length d1) ∧ w'.cell? ⟨gx, 0, none⟩ = some (.int .i64 y.c) ∧ w'.cell? ⟨gx, 1, none⟩ = some (.slice A2 y.ws.length c2) ∧ w'.cell? ⟨gx, 2, none⟩ = some (.slice B2 y.ds.length d2) ∧ w'.cell? ⟨gy, 0, none⟩ = some (.int .i64 y.c) ∧ w'.cell? ⟨gy, 1, none⟩ = some (.slice A3 y.ws.length c3) ∧ w'.cell? ⟨gy, 2, none⟩ = some (.slice B3 y.ds.length d3) ∧ w'.cell? ⟨gt, 0, none⟩ = some (.int .i64 x.c) ∧ w'.cell? ⟨gt, 1, none⟩ = some (.slice A4 x.ws.length c4) ∧ w'.cell? ⟨gt, 2, none⟩ = some (.slice B4 x.ds.length d4) from
    ⟨(h.cell (cell_block s0)).trans s0, (h.cell (cell_block s1)).trans s1, (h.cell (cell_block s2)).trans s2, (h.cell (cell_block o0)).trans o0, (h.cell (cell_block o1)).trans o1, (h.cell (cell_block o2)).trans o2, (h.cell (cell_block p0)).trans p0, (h.cell (cell_block p1)).trans p1, (h.cell (cell_block p2)).trans p2, (h.cell (cell_block q0)).trans q0, (h.cell (cell_block q1)).trans q1, (h.cell (cell_block q2)).trans q2, (h.cell (cell_block k0)).trans k0, (h.cell (cell_block k1)).trans k1, (h.cell (cell_block k2)).trans k2, (h.cell (cell_block t0)).trans t0, (h.cell (cell_block t1)).trans t1, (h.cell (cell_block t2)).trans t2⟩)
  have bb1 : Below wA.heap.size wA wA.drew := (Below.refl _ _).drew
  have CS1 := Lib.hid (fun (W : World) (h : Below wA.heap.size wA W) => same_self (VX.out.below h).st (VY.out.below h).st)
  have CMM := Lib.hid (fun (W : World) (h : Below wA.heap.size wA W) => msgs_self (ML.out.below h) (MM.out.below h))
  have CS2 := Lib.hid (fun (W : World) (h : Below wA.heap.size wA W) => same_self (VT.out.below h).st (VS.out.below h).st)
  have CCK := Lib.hid (fun (W : World) (h : Below wA.heap.size wA W) => pcheck15_any _ x W (VW.out.below h).st HF.out)
  have CMY := Lib.hid (fun (W : World) (h : Below wA.heap.size wA W) => rmay15_any _ x W (VS.out.below h).st HF.out)
  have CSM := Lib.hid (fun (W : World) (h : Below wA.heap.size wA W) => psame15_any _ _ x x' W (VW.out.below h).st (VO.out.below h).st)
  have CS3 := Lib.hid (fun (W : World) (h : Below wA.heap.size wA W) => rsame15_any _ _ x x' W (VS.out.below h).st (VO.out.below h).st)
  have CNW := Lib.hid (fun (W : World) => pnew15_any W)
  have CZZ := Lib.hid (fun (W : World) (vn : Value) (h : SkIs W vn KM.zero) => same_self h (show SkIs W (.agg #[.int .i64 0, .slice none 0 0, .slice none 0 0]) KM.zero from (skO_zero W 0).is))
  obtain ⟨z, hz⟩ : ∃ z : Int, z = if KM.may x then 0 else 8 := ⟨_, rfl⟩
  obtain ⟨mb, hmb⟩ : ∃ mb : Bool, mb = decide (KM.may x) := ⟨_, rfl⟩
  obtain ⟨sb, hsb⟩ : ∃ sb : Bool, sb = decide (x = x') := ⟨_, rfl⟩
  simp only [← hz] at CCK
  simp only [← hmb] at CMY
  simp only [← hsb] at CSM CS3
  have tzm : (z == 0) = mb := by rw [hz, hmb]; by_cases h : KM.may x <;> simp [h]
  have tmm : (mb != mb) = false := by simp
  have tss : (sb != sb) = false := by simp
  have tee : (er != er) = false := by simp
  have tla : (la != la) = false := by simp
  have tlp : (lp != lp) = false := by simp
  have tle : (le != le) = false := by simp
  clear hz hmb hsb
  clear s0 s1 s2 o0 o1 o2 p0 p1 p2 q0 q1 q2 k0 k1 k2 t0 t1 t2
  obtain ⟨ud, hud⟩ : ∃ ud, ud = wA.drew := ⟨_, rfl⟩
  refine wp_region_held_drew (S := fun w' => w'.cell? ⟨g0, 0, none⟩ = some (.int .i64 x.c) ∧ w'.cell? ⟨g0, 1, none⟩ = some (.slice A x.ws.length c) ∧ w'.cell? ⟨g0, 2, none⟩ = some (.slice B x.ds.length d) ∧ w'.cell? ⟨g0 + 1, 0, none⟩ = some (.int .i64 x'.c) ∧ w'.cell? ⟨g0 + 1, 1, none⟩ = some (.slice A' x'.ws.length c') ∧ w'.cell? ⟨g0 + 1, 2, none⟩ = some (.slice B' x'.ds.length d') ∧ w'.cell? ⟨gw, 0, none⟩ = some (.int .i64 x.c) ∧ w'.cell? ⟨gw, 1, none⟩ = some (.slice A1 x.ws.length c1) ∧ w'.cell? ⟨gw, 2, none⟩ = some (.slice B1 x.ds.length d1) ∧ w'.cell? ⟨gx, 0, none⟩ = some (.int .i64 y.c) ∧ w'.cell? ⟨gx, 1, none⟩ = some (.slice A2 y.ws.length c2) ∧ w'.cell? ⟨gx, 2, none⟩ = some (.slice B2 y.ds.length d2) ∧ w'.cell? ⟨gy, 0, none⟩ = some (.int .i64 y.c) ∧ w'.cell? ⟨gy, 1, none⟩ = some (.slice A3 y.ws.length c3) ∧ w'.cell? ⟨gy, 2, none⟩ = some (.slice B3 y.ds.length d3) ∧ w'.cell? ⟨gt, 0, none⟩ = some (.int .i64 x.c) ∧ w'.cell? ⟨gt, 1, none⟩ = some (.slice A4 x.ws.length c4) ∧ w'.cell? ⟨gt, 2, none⟩ = some (.slice B4 x.ds.length d4)) (by kernel_rfl) (HSS.out _ bb1) (fun hHeld => ?_)
  rw [← hud] at bb1 hHeld ⊢
  clear hud
  refine qT 0 ?_; try simp only [Act.put, qq]
  refine qT 1 ?_; try simp only [Act.put, qq]
  refine wpAnyH_ready (rs := [2]) (by kernel_rfl) (by simp) ?_
  refine AllReadyH.cons rfl (fun K hK => ?_) AllReadyH.nil
  go_simp
  refine (CS1.out _ bb1).mono ?_
  rintro e1 wb1 ⟨rfl, hb1⟩
  have bb2 : Below wA.heap.size wA wb1 := bb1.trans (hb1.mono bb1.size)
  clear hb1
  refine hK.out _ _ (HSS.out _ bb2) (fun hHeld => ?_)
  clear hK
  try simp only [Act.put, qq]
  refine qT 3 ?_; try simp only [Act.put, qq]
  refine qT 4 ?_; try simp only [Act.put, qq]
  refine qT 5 ?_; try simp only [Act.put, qq]
  refine qT 6 ?_; try simp only [Act.put, qq]
  refine wpAnyH_ready (rs := [7]) (by kernel_rfl) (by simp) ?_
  refine AllReadyH.cons rfl (fun K hK => ?_) AllReadyH.nil
  go_simp
  refine (CMM.out _ bb2).mono ?_
  rintro e2 wb2 ⟨rfl, hb2⟩
  have bb3 : Below wA.heap.size wA wb2 := bb2.trans (hb2.mono bb2.size)
  clear hb2
  refine hK.out _ _ (HSS.out _ bb3) (fun hHeld => ?_)
  clear hK
  try simp only [Act.put, qq]
  refine qT 8 ?_; try simp only [Act.put, qq]
  refine qT 9 ?_; try simp only [Act.put, qq]
  refine qT 10 ?_; try simp only [Act.put, qq]
  refine qT 11 ?_; try simp only [Act.put, qq]
  refine qT 12 ?_; try simp only [Act.put, qq]
  refine qT 13 ?_; try simp only [Act.put, qq]
  refine qT 14 ?_; try simp only [Act.put, qq]
  refine qT 15 ?_; try simp only [Act.put, qq]
  refine qT 16 ?_; try simp only [Act.put, qq]
  refine qT 17 ?_; try simp only [Act.put, qq]
  refine qT 18 ?_; try simp only [Act.put, qq]
  refine qT 19 ?_; try simp only [Act.put, qq]
  refine qT 20 ?_; try simp only [Act.put, qq]
  refine qT 21 ?_; try simp only [Act.put, qq]
  refine qT 22 ?_; try simp only [Act.put, qq]
  refine qT 23 ?_; try simp only [Act.put, qq]
  refine qT 24 ?_; try simp only [Act.put, qq]
  refine qT 25 ?_; try simp only [Act.put, qq]
  refine qT 26 ?_; try simp only [Act.put, qq]
  refine qT 27 ?_; try simp only [Act.put, qq]
  refine qT 28 ?_; try simp only [Act.put, qq]
  refine qT 29 ?_; try simp only [Act.put, qq]
  refine qT 30 ?_; try simp only [Act.put, qq]
  refine qT 31 ?_; try simp only [Act.put, qq]
  refine qT 32 ?_; try simp only [Act.put, qq]
  refine wpAnyH_ready (rs := [33]) (by kernel_rfl) (by simp) ?_
  refine AllReadyH.cons rfl (fun K hK => ?_) AllReadyH.nil
  go_simp
  refine (CS2.out _ bb3).mono ?_
  rintro e3 wb3 ⟨rfl, hb3⟩
  have bb4 : Below wA.heap.size wA wb3 := bb3.trans (hb3.mono bb3.size)
  clear hb3
  refine hK.out _ _ (HSS.out _ bb4) (fun hHeld => ?_)
  clear hK
  try simp only [Act.put, qq]
  refine qT 34 ?_; try simp only [Act.put, qq]
  refine qT 35 ?_; try simp only [Act.put, qq]
  refine qT 36 ?_; try simp only [Act.put, qq]
  refine qT 37 ?_; try simp only [Act.put, qq]
  refine qT 40 ?_; try simp only [Act.put, qq]
  refine wpAnyH_ready (rs := [38]) (by kernel_rfl) (by simp) ?_
  refine AllReadyH.cons rfl (fun K hK => ?_) AllReadyH.nil
  go_simp
  refine (CCK.out _ bb4).mono ?_
  rintro e4 wb4 ⟨rfl, hb4⟩
  have bb5 : Below wA.heap.size wA wb4 := bb4.trans (hb4.mono bb4.size)
  clear hb4
  refine hK.out _ _ (HSS.out _ bb5) (fun hHeld => ?_)
  clear hK
  try simp only [Act.put, qq]
  refine qT 39 ?_; try simp only [Act.put, qq]
  refine wpAnyH_ready (rs := [41]) (by kernel_rfl) (by simp) ?_
  refine AllReadyH.cons rfl (fun K hK => ?_) AllReadyH.nil
  go_simp
  refine (CMY.out _ bb5).mono ?_
  rintro e5 wb5 ⟨rfl, hb5⟩
  have bb6 : Below wA.heap.size wA wb5 := bb5.trans (hb5.mono bb5.size)
  clear hb5
  refine hK.out _ _ (HSS.out _ bb6) (fun hHeld => ?_)
  clear hK
  try simp only [Act.put, qq]
  refine qT 42 ?_; try simp only [Act.put, qq]
  refine qT 43 ?_; try simp only [Act.put, qq]
  refine qT 44 ?_; try simp only [Act.put, qq]
  refine qT 45 ?_; try simp only [Act.put, qq]
  refine qT 46 ?_; try simp only [Act.put, qq]
  refine qT 48 ?_; try simp only [Act.put, qq]
  refine qT 49 ?_; try simp only [Act.put, qq]
  refine wpAnyH_ready (rs := [47]) (by kernel_rfl) (by simp) ?_
  refine AllReadyH.cons rfl (fun K hK => ?_) AllReadyH.nil
  go_simp
  refine (CSM.out _ bb6).mono ?_
  rintro e6 wb6 ⟨rfl, hb6⟩
  have bb7 : Below wA.heap.size wA wb6 := bb6.trans (hb6.mono bb6.size)
  clear hb6
  refine hK.out _ _ (HSS.out _ bb7) (fun hHeld => ?_)
  clear hK
  try simp only [Act.put, qq]
  refine wpAnyH_ready (rs := [50]) (by kernel_rfl) (by simp) ?_
  refine AllReadyH.cons rfl (fun K hK => ?_) AllReadyH.nil
  go_simp
  refine (CS3.out _ bb7).mono ?_
  rintro e7 wb7 ⟨rfl, hb7⟩
  have bb8 : Below wA.heap.size wA wb7 := bb7.trans (hb7.mono bb7.size)
  clear hb7
  refine hK.out _ _ (HSS.out _ bb8) (fun hHeld => ?_)
  clear hK
  try simp only [Act.put, qq]
  refine qT 51 ?_; try simp only [Act.put, qq]
  refine qT 52 ?_; try simp only [Act.put, qq]
  refine qT 53 ?_; try simp only [Act.put, qq]
  refine qT 55 ?_; try simp only [Act.put, qq]
  refine wpAnyH_ready (rs := [54]) (by kernel_rfl) (by simp) ?_
  refine AllReadyH.cons rfl (fun K hK => ?_) AllReadyH.nil
  go_simp
  refine (CNW.out _).mono ?_
  rintro e8 wb8 ⟨vn, rfl, hzo, hb8⟩
  have bb9 : Below wA.heap.size wA wb8 := bb8.trans (hb8.mono bb8.size)
  have HZ := Lib.hid hzo.is
  clear hb8 hzo
  refine hK.out _ _ (HSS.out _ bb9) (fun hHeld => ?_)
  clear hK
  try simp only [Act.put, qq]
  refine wpAnyH_ready (rs := [56]) (by kernel_rfl) (by simp) ?_
  refine AllReadyH.cons rfl (fun K hK => ?_) AllReadyH.nil
  go_simp
  refine (CZZ.out _ _ HZ.out).mono ?_
  rintro e9 wb9 ⟨rfl, hb9⟩
  have bb10 : Below wA.heap.size wA wb9 := bb9.trans (hb9.mono bb9.size)
  clear hb9 HZ
  refine hK.out _ _ (HSS.out _ bb10) (fun hHeld => ?_)
  clear hK
  try simp only [Act.put, qq]
  refine qT 57 ?_; try simp only [Act.put, qq]
  refine qT 58 ?_; try simp only [Act.put, qq]
  refine wpAnyH_done (by kernel_rfl) ?_ _
  clear hHeld HSS
  clear CS1 CMM CS2 CCK CMY CSM CS3 CNW CZZ
  replace HB := Lib.hid (bmore HB.out bb10 (Nat.le_refl _))
  replace BL5 := Lib.hid (bmore BL5.out bb10 (Nat.le_refl _))
  replace HX2 := Lib.hid (Nat.lt_of_lt_of_le HX2.out bb10.size)
  replace HT2 := Lib.hid (Nat.lt_of_lt_of_le HT2.out bb10.size)
  replace VS := Lib.hid (VS.out.below bb10)
  replace VO := Lib.hid (VO.out.below bb10)
  replace VC := Lib.hid (VC.out.below bb10)
  replace VW := Lib.hid (VW.out.below bb10)
  replace VI := Lib.hid (VI.out.below bb10)
  replace VX := Lib.hid (VX.out.below bb10)
  replace RX := Lib.hid (RX.out.below bb10)
  replace ML := Lib.hid (ML.out.below bb10)
  replace RL := Lib.hid (RL.out.below bb10)
  replace VY := Lib.hid (VY.out.below bb10)
  replace MM := Lib.hid (MM.out.below bb10)
  replace VT := Lib.hid (VT.out.below bb10)
  replace RT := Lib.hid (RT.out.below bb10)
  clear bb1 bb2 bb3 bb4 bb5 bb6 bb7 bb8 bb9 bb10 VY MM VO ML
  have CTX := Lib.hid (turn15_sz w5.heap.size gx y.c A2 B2 y.ws.length y.ds.length c2 d2 wb9 RX.out (Nat.le_of_lt HX2.out) HMX.out.1 HMX.out.2)
  obtain ⟨x0, x1, x2⟩ := box_sk VX.out.bx
  go_wp2_with fail
  clear x0 x1 x2
  refine (CTX.out).mono ?_
  rintro e wB ⟨rfl, hwi, hsz⟩
  have hx5 := HX1.out
  have hx3 := HX3.out
  have ht1 := HT1.out
  have ht2 := HT2.out
  replace BL5 := Lib.hid (BL5.out.trans (hwi.below (Nat.le_refl _) BL5.out.size))
  have hgl := HGL.out
  replace HB := Lib.hid (HB.out.trans (hwi.below (by have := HG.out; omega) HB.out.size))
  have BT := Lib.hid (VT.out.bx.within hwi (.inr (by omega)))
  have RT2 := Lib.hid (RT.out.within hwi (by omega))
  replace RL := Lib.hid (RL.out.sz hsz (by unfold isTu; decide))
  have HSB := Lib.hid (show gt < wB.heap.size by have := hwi.size; omega)
  have CTT := Lib.hid (turn15_sz wb.heap.size gt x.c A4 B4 x.ws.length x.ds.length c4 d4 wB RT2.out (Nat.le_of_lt HSB.out) HMT.out.1 HMT.out.2)
  clear hwi hsz CTX
  obtain ⟨x0, x1, x2⟩ := box_sk BT.out
  go_wp2_with fail
  clear x0 x1 x2
  refine (CTT.out).mono ?_
  rintro e wC ⟨rfl, hwi, hsz⟩
  replace BL5 := Lib.hid (BL5.out.trans (hwi.below (by omega) BL5.out.size))
  replace HB := Lib.hid (HB.out.trans (hwi.below (by have := HG.out; omega) HB.out.size))
  replace RL := Lib.hid (RL.out.sz hsz (by unfold isTu; decide))
  have HLR := Lib.hid (show LR wC w5.heap.size gx E6 ms.length wC from ⟨Within.refl _ _ _, RL.out⟩)
  clear hwi hsz CTT BT RT2 RL RT VT VX RX VS VC VW VI
  go_wp2_with fail
  go_loopw [26] (fun i wr => ∃ j : Nat, j ≤ ms.length ∧ i = .int .i64 j ∧ Hid (LR wC w5.heap.size gx E6 ms.length wr)) (fun i _ => ms.length - (intOf i).toNat)
  case atStart => exact ⟨0, by omega, rfl, HLR⟩
  case round =>
    clear HLR
    obtain ⟨j, hj, rfl, HT⟩ := hrel
    have hml := HML.out
    by_cases hlt : j < ms.length
    · have i0 : (0 : Int) ≤ (j : Int) := by omega
      have i1 : (j : Int) < (ms.length : Int) := by omega
      obtain ⟨b6, rfl⟩ : ∃ q, E6 = some ⟨q, 0, none⟩ := by obtain ⟨q, _, h, _⟩ := HT.out.rs (by omega); exact ⟨q, h⟩
      go_wp2_with fail
      go_loopw [27] (fun i wr => ∃ k : Nat, i = .int .i64 k ∧ Hid (LR wC w5.heap.size gx (some ⟨b6, 0, none⟩) ms.length wr)) (fun i _ => 9223372036854775808 - (intOf i).toNat)
      case atStart => exact ⟨0, rfl, HT⟩
      case round =>
        clear HT
        obtain ⟨k, rfl, HT⟩ := hrel
        obtain ⟨q', cur, e', hq1, hq2, hbx, hsz, hall⟩ := HT.out.rs (by omega)
        injection e' with e'
        injection e' with e'
        subst e'
        obtain ⟨C, y9, z9, hcB, hm, hrow⟩ := hall j hlt
        have hmc : wr.cell? ⟨b6, j * 5 + 1, none⟩ = some (.slice C y9 z9) := by rw [hbx.cell (j * 5 + 1)]; exact hcB
        by_cases hk : k < y9
        · obtain ⟨g9, cg, rfl, g1, g2, hxg, hsg⟩ := hrow (by omega)
          have hcell : wr.cell? ⟨g9, k, none⟩ = some (cg[k]'(by omega)) := by rw [hxg.cell k, Array.getElem?_eq_getElem (by omega)]
          have hfr := hxg.frozen k
          have HT2 := Lib.hid (HT.out.set (j := k) hxg g1 g2 (.int .i64 77))
          generalize cg[k]'(by omega) = cj at hcell
          have k0 : (0 : Int) ≤ (k : Int) := by omega
          have k1 : (k : Int) < (y9 : Int) := by omega
          clear HT hbx hxg hall hcB hrow
          go_wp2_with fail
          go_roundw
          case rel => exact ⟨k + 1, by go_num, HT2⟩
          case measure => simp [intOf]; omega
        · have k1 : decide ((k : Int) < (y9 : Int)) = false := by simp; omega
          clear hbx hall hcB hrow
          go_wp2_with fail
          go_roundw
          case rel => exact ⟨j + 1, by omega, by go_num, HT⟩
          case measure => simp [intOf]; omega
    · have hlt0 : decide ((j : Int) < (ms.length : Int)) = false := by simp; omega
      have hwi := HT.out.wi
      replace BL5 := Lib.hid (BL5.out.trans (hwi.below (Nat.le_refl _) BL5.out.size))
      replace HB := Lib.hid (HB.out.trans (hwi.below (by have := HG.out; omega) HB.out.size))
      clear hwi HT
      have VSC := Lib.hid (VS5.out.below BL5.out)
      have VWC := Lib.hid (VW5.out.below BL5.out)
      have VCC := Lib.hid (VC5.out.below BL5.out)
      have VIC := Lib.hid (VI5.out.below BL5.out)
      obtain ⟨x0, x1, x2⟩ := box_sk VSC.out.bx
      obtain ⟨y0, y1, y2⟩ := box_sk VWC.out.bx
      go_wp2_with fail
      clear x0 x1 x2 y0 y1 y2
      refine (same_self VWC.out.st VSC.out.st).mono ?_
      rintro e wD ⟨rfl, hb⟩
      replace HB := Lib.hid (bmore HB.out hb (Nat.le_refl _))
      replace VCC := Lib.hid (VCC.out.below hb)
      replace VIC := Lib.hid (VIC.out.below hb)
      clear hb
      obtain ⟨a0, a1, a2, a3, a4, a5, a6, a7, a8, a9, a10, a11⟩ := box_cm VCC.out.bx
      obtain ⟨i0, i1, i2, i3, i4, i5, i6, i7, i8, i9, i10, i11⟩ := box_cm VIC.out.bx
      go_wp2_with fail
      refine (cm_self VIC.out.st VCC.out.st).mono ?_
      rintro e wE ⟨rfl, hb⟩
      replace HB := Lib.hid (bmore HB.out hb (Nat.le_refl _))
      clear hb
      go_wp2_with fail
      go_ret
      exact ⟨rfl, by have := HB.out; rwa [HG.out] at this⟩
end Go.Proofs.YtnpgjcapekopnaaGreat.KP
namespace Go.Proofs.YtnpgjcapekopnaaGreat
open Go.RowKit
theorem skeenDoes_walk (v : Value) (x : KM.Sk) (v' : Value) (x' : KM.Sk) (g : Int) (vc : Value) (xc : CM.Cm) (id : Int) (w : World) (hx : KP.SkArg w v x) (hx' : KP.SkArg w v' x') (hg : (Lit.int .i64 g).wf = true) (hc : CP.CmArg w vc xc) (hid : (Lit.int .i64 id).wf = true) :
    Calls Tryz.prog 3 #[v, v', .int .i64 g, vc, .int .i64 id] w fun e w' => e = .returned (.bool true) ∧ Below w.heap.size w w' := KP.skeenDoes_walk v x v' x' g vc xc id w hx hx' hg hc hid
end Go.Proofs.YtnpgjcapekopnaaGreat
