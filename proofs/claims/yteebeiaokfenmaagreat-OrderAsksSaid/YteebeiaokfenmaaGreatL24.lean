/- Contracts of functions, L24: each as its theorem says. -/
import Derived.Test.YteebeiaokfenmaaGreatL17
set_option linter.unusedVariables false
set_option linter.unusedSimpArgs false
set_option maxRecDepth 100000
set_option maxHeartbeats 16000000
namespace Go.Proofs.YteebeiaokfenmaaGreat
namespace KP
open Go.RowKit CP TP
open CM (Mg Cm)
open TM (Sp)
open KM (Wt Sk)
def okAt (s : Sk) (k : Nat) : Prop := ∀ x, s.ws[k]? = some x → (CM.mgOk x.m ∧ 1 ≤ x.t ∧ x.t ≤ s.c) ∧ (k = 0 ∨ ∀ u, s.ws[k - 1]? = some u → u.m.id < x.m.id)
theorem areWt_iff {s : Sk} : KM.areWt s ↔ s.ws.length ≤ 200 ∧ ∀ k, k < s.ws.length → okAt s k := by
 constructor
 ·rintro ⟨h1, h2, h3⟩
  refine ⟨h1, fun k hk x hx => ⟨h2 x (List.mem_of_getElem? hx), ?_⟩⟩
  rcases Nat.eq_zero_or_pos k with h0 | h0
  ·exact .inl h0
  ·exact .inr fun u hu => KM.rise_get h3 (i := k - 1) (j := k) (by omega) hu hx
 ·rintro ⟨h1, h2⟩
  refine ⟨h1, fun x hx => ?_, ?_⟩
  ·obtain ⟨k, hk, rfl⟩ := List.getElem_of_mem hx
   exact (h2 k hk _ (List.getElem?_eq_getElem hk)).1
  ·have hadj : ∀ d i (h : i + 1 + d < s.ws.length), s.ws[i].m.id < s.ws[i + 1 + d].m.id := by
    intro d
    induction d with
    | zero =>
     intro i h
     rcases (h2 (i + 1) h _ (List.getElem?_eq_getElem h)).2 with h0 | h0
     ·omega
     ·exact h0 _ (List.getElem?_eq_getElem (by omega))
    | succ d ih =>
     intro i h
     have h3 := ih i (by omega)
     rcases (h2 (i + 1 + (d + 1)) h _ (List.getElem?_eq_getElem h)).2 with h0 | h0
     ·omega
     ·have h4 := h0 (s.ws[i + 1 + d]) (by rw [show i + 1 + (d + 1) - 1 = i + 1 + d by omega]; exact List.getElem?_eq_getElem (by omega))
      omega
   rw [List.pairwise_iff_getElem]
   intro i j hi hj hij
   have := hadj (j - i - 1) i (by omega)
   simpa [show i + 1 + (j - i - 1) = j by omega] using this
theorem not_areWt {s : Sk} {k : Nat} {x : Wt} (hx : s.ws[k]? = some x) (h : ¬ ((CM.mgOk x.m ∧ 1 ≤ x.t ∧ x.t ≤ s.c) ∧ (k = 0 ∨ ∀ u, s.ws[k - 1]? = some u → u.m.id < x.m.id))) : ¬ KM.areWt s := fun hw =>
 h ((areWt_iff.1 hw).2 k (List.getElem?_eq_some_iff.1 hx).1 x hx)
theorem okAt_of {s : Sk} {k : Nat} {x : Wt} (hx : s.ws[k]? = some x) (h : (CM.mgOk x.m ∧ 1 ≤ x.t ∧ x.t ≤ s.c) ∧ (k = 0 ∨ ∀ u, s.ws[k - 1]? = some u → u.m.id < x.m.id)) : okAt s k := fun y hy => by
 rw [hx] at hy
 injection hy with hy
 rw [← hy]
 exact h
theorem all_next {p : Nat → Prop} {k : Nat} (h : ∀ j, j < k → p j) (hk : p k) : ∀ j, j < k + 1 → p j := fun j hj => by
 rcases Nat.lt_or_ge j k with h1 | h1
 ·exact h j h1
 ·obtain rfl : j = k := by omega
  exact hk
theorem ispast_any (c t : Int) (vw vd : Value) (A B : Option Addr) (n m ca cb : Nat) (h1 : vw = .slice A n ca) (h2 : vd = .slice B m cb) (w : World) : Calls Tryz.prog 147 #[vsk c vw vd, .int .i64 t] w (IsB (decide (1 ≤ t ∧ t ≤ c)) w) := by
 subst h1 h2
 obtain ⟨d, hd⟩ : ∃ d, d = decide (1 ≤ t ∧ t ≤ c) := ⟨_, rfl⟩
 have HD := h! hd
 rw [← hd]
 clear hd
 have HB := h! (show Below w.heap.size w (w.alloc (.cells #[.int .i64 c, .slice A n ca, .slice B m cb] 39)) from (Below.refl _ _).alloc n! _)
 have X := h! (Box.new w 39 #[.int .i64 c, .slice A n ca, .slice B m cb])
 unfold vsk
 go_enter Tryz.func147, Tryz.ntmps147
 go_upto_region 1 with (fail)
 generalize w.alloc (.cells #[.int .i64 c, .slice A n ca, .slice B m cb] 39) = w1 at HB X ⊢
 generalize w.heap.size = g0 at X ⊢
 obtain ⟨x0, x1, x2⟩ := box_sk X.out
 by_cases g1 : 1 ≤ t
 ·by_cases g2 : t ≤ c
  ·have e : d = true := by rw [HD.out]; simp [g1, g2]
   subst e
   go_wp2_with fail
   go_ret
   exact ⟨rfl, HB.out⟩
  ·have e : d = false := by rw [HD.out]; simp [g1, g2]
   subst e
   go_wp2_with fail
   go_ret
   exact ⟨rfl, HB.out⟩
 ·have e : d = false := by rw [HD.out]; simp [g1]
  subst e
  go_wp2_with fail
  go_ret
  exact ⟨rfl, HB.out⟩
theorem areWaits_any (v : Value) (s : Sk) (w : World) (h : SkIs w v s) (hf : SkFit s) : Calls Tryz.prog 129 #[v] w (IsB (decide (KM.areWt s)) w) := by
 obtain ⟨A, ca, B, cb, rfl, r1, d1⟩ := h
 have HI := h! (areWt_iff (s := s))
 have HNO := h! (fun k x => not_areWt (s := s) (k := k) (x := x))
 have HOK := h! (fun k x => okAt_of (s := s) (k := k) (x := x))
 obtain ⟨ok, hok⟩ : ∃ ok : Nat → Prop, ok = okAt s := ⟨_, rfl⟩
 rw [← hok] at HI HOK
 clear hok
 obtain ⟨R, hR⟩ : ∃ R, R = KM.areWt s := ⟨_, rfl⟩
 obtain ⟨b, hb⟩ : ∃ b, b = decide (KM.areWt s) := ⟨_, rfl⟩
 have HRB := h! (show (b = true ↔ R) by rw [hb, hR]; simp)
 rw [← hb]
 rw [← hR] at HI HNO
 clear hR hb
 have HW := h! hf.2.1
 have HP := h! (fun t w => ispast_any s.c t (.slice A s.ws.length ca) (.slice B s.ds.length cb) A B s.ws.length s.ds.length ca cb rfl rfl w)
 obtain ⟨sc, ws, ds⟩ := s
 simp only at r1 d1 HI HNO HOK HW HP
 obtain ⟨n, hna⟩ : ∃ n, n = ws.length := ⟨_, rfl⟩
 obtain ⟨m, hmb⟩ : ∃ m, m = ds.length := ⟨_, rfl⟩
 unfold vsk at HP ⊢
 simp only
 rw [← hna] at r1 HP HI ⊢
 rw [← hmb] at HP ⊢
 have HL := h! hna
 have hn63 := r1.small
 have H := h! (fun W (hb : Below w.heap.size w W) => r1.below hb)
 clear hna hmb r1 d1 hf
 have HB := h! (show Below w.heap.size w (w.alloc (.cells #[.int .i64 sc, .slice A n ca, .slice B m cb] 39)) from (Below.refl _ _).alloc n! _)
 have X := h! (Box.new w 39 #[.int .i64 sc, .slice A n ca, .slice B m cb])
 go_enter Tryz.func129, Tryz.ntmps129
 go_upto_region 1 with (fail)
 generalize w.alloc (.cells #[.int .i64 sc, .slice A n ca, .slice B m cb] 39) = w1 at HB X ⊢
 generalize w.heap.size = g0 at X ⊢
 obtain ⟨x0, x1, x2⟩ := box_sk X.out
 by_cases hbig : 200 < n
 ·have e : b = false := by
   have := HRB.out
   rcases b with _ | _
   ·rfl
   ·have := (HI.out.1 (this.1 rfl)).1
    omega
  subst e
  have hb1 : (200 : Int) < (n : Int) := by omega
  go_wp2_with fail
  go_ret
  exact ⟨rfl, HB.out⟩
 have hb1 : ¬ ((200 : Int) < (n : Int)) := by omega
 go_wp2_with fail
 clear x0 x1 x2
 go_loopw [12] (fun i wr => ∃ k : Nat, k ≤ n ∧ i = .int .i64 k ∧ Hid (Below w1.heap.size w1 wr) ∧ Hid (∀ j, j < k → ok j)) (fun i _ => n - (intOf i).toNat)
 case atStart => exact ⟨0, by omega, rfl, h! (Below.refl _ _), h! (fun j hj => absurd hj (Nat.not_lt_zero _))⟩
 case round =>
  obtain ⟨k, hk, rfl, HW1, HS⟩ := hrel
  by_cases hlt : k < n
  ·obtain ⟨x, hx⟩ : ∃ x, ws[k]? = some x := ⟨_, List.getElem?_eq_getElem (by have := HL.out; omega)⟩
   have HXx := h! hx
   have HN1 := h! (HNO.out k x hx)
   have HO1 := h! (HOK.out k x hx)
   obtain ⟨bl, o, Q, q, rfl, _, hbl, hat, hrow⟩ := wts_at (H.out _ (bmore HB.out HW1.out n!)) hx
   have hfx := HW.out x (List.mem_of_getElem? hx)
   obtain ⟨a0, a1, a2, a3, a4, a5, a6⟩ := hat
   obtain ⟨x0, x1, x2⟩ := box_sk (X.out.below HW1.out X.out.lt)
   have hk0 : (0 : Int) ≤ (k : Int) := by omega
   have hkn : (k : Int) < (n : Int) := by omega
   have HBL := h! hbl
   have CM1 := h! (fun W (hb : Below wr.heap.size wr W) => pcheckMg_any x.m (.agg (mcells Q q x.m)) W ⟨Q, q, rfl, hrow.below hb⟩ hfx.1.1)
   have CP1 := h! (fun W => HP.out x.t W)
   clear hx hfx hrow hbl
   obtain ⟨⟨yi, yg, yt, yk, yb⟩, ym, yf⟩ := x
   unfold mcells at CM1
   simp only at a0 a1 a2 a3 a4 a5 a6 CM1 CP1 HN1 HO1
   have HR0 := h! (show ∀ W, Below wr.heap.size wr W → k ≠ 0 → ∃ u, ws[k - 1]? = some u ∧ W.cell? ⟨bl, o + (k - 1) * 7, none⟩ = some (.int .i64 u.m.id) from fun W hb hk1 => by
    obtain ⟨u, hu⟩ : ∃ u, ws[k - 1]? = some u := ⟨_, List.getElem?_eq_getElem (by have := HL.out; omega)⟩
    obtain ⟨bl', o', Q', q', e', _, _, hat', _⟩ := wts_at (H.out _ (bmore (bmore HB.out HW1.out n!) hb n!)) hu
    injection e' with e'
    injection e' with e1 e2
    subst e1 e2
    exact ⟨u, hu, hat'.1⟩)
   go_upto_region 6 with (fail)
   have bb0 : Below wr.heap.size wr (wr.alloc (.cells #[.int .i64 yi, .slice Q yg.length q, .int .i64 yt, .string yk, .string yb, .int .i64 ym, .bool yf] 78)) := b!
   have HBB := h! (bmore HW1.out bb0 n!)
   have HX0 := h! ((X.out.below HW1.out X.out.lt).alloc (.cells #[.int .i64 yi, .slice Q yg.length q, .int .i64 yt, .string yk, .string yb, .int .i64 ym, .bool yf] 78))
   have HY0 := h! (Box.new wr 78 #[.int .i64 yi, .slice Q yg.length q, .int .i64 yt, .string yk, .string yb, .int .i64 ym, .bool yf])
   replace CM1 := h! (fun W (hb : Below (wr.alloc (.cells #[.int .i64 yi, .slice Q yg.length q, .int .i64 yt, .string yk, .string yb, .int .i64 ym, .bool yf] 78)).heap.size (wr.alloc (.cells #[.int .i64 yi, .slice Q yg.length q, .int .i64 yt, .string yk, .string yb, .int .i64 ym, .bool yf] 78)) W) => CM1.out W (bmore bb0 hb n!))
   replace HR0 := h! (fun W (hb : Below (wr.alloc (.cells #[.int .i64 yi, .slice Q yg.length q, .int .i64 yt, .string yk, .string yb, .int .i64 ym, .bool yf] 78)).heap.size (wr.alloc (.cells #[.int .i64 yi, .slice Q yg.length q, .int .i64 yt, .string yk, .string yb, .int .i64 ym, .bool yf] 78)) W) => HR0.out W (bmore bb0 hb n!))
   clear bb0 a0 a1 a2 a3 a4 a5 a6 x0 x1 x2
   generalize wr.alloc (.cells #[.int .i64 yi, .slice Q yg.length q, .int .i64 yt, .string yk, .string yb, .int .i64 ym, .bool yf] 78) = w3 at HBB HX0 HY0 CM1 HR0 ⊢
   generalize wr.heap.size = g4 at HY0 ⊢
   obtain ⟨x0, x1, x2⟩ := box_sk HX0.out
   obtain ⟨a0, a1, a2, a3, a4, a5, a6⟩ := box_wt HY0.out
   obtain ⟨er, her⟩ : ∃ er : Int, er = if CM.mgOk ⟨yi, yg, yt, yk, yb⟩ then 0 else 120 := ⟨_, rfl⟩
   have HER := h! her
   rw [← her] at CM1
   clear her
   obtain ⟨pb, hpb⟩ : ∃ pb, pb = decide (1 ≤ ym ∧ ym ≤ sc) := ⟨_, rfl⟩
   have HPB := h! hpb
   rw [← hpb] at CP1
   clear hpb
   by_cases hm : er = 0
   ·subst hm
    have hM : CM.mgOk ⟨yi, yg, yt, yk, yb⟩ := by
     have := HER.out
     split at this
     ·assumption
     ·exact absurd this (by decide)
    have HM := h! hM
    clear hM
    rcases pb with _ | _
    ·have e : b = false := by
      have h1 := HRB.out
      rcases b with _ | _
      ·rfl
      ·exact absurd (h1.1 rfl) (HN1.out fun h2 => by have := HPB.out; simp at this; omega)
     subst e
     have HSS := h! (fun (w' : World) (h : Below w3.heap.size w3 w') => show w'.cell? ⟨g0, 0, none⟩ = some (.int .i64 sc) ∧ w'.cell? ⟨g0, 1, none⟩ = some (.slice (some ⟨bl, o, none⟩) n ca) ∧ w'.cell? ⟨g0, 2, none⟩ = some (.slice B m cb) ∧ w'.cell? ⟨g4, 0, none⟩ = some (.int .i64 yi) ∧ w'.cell? ⟨g4, 1, none⟩ = some (.slice Q yg.length q) ∧ w'.cell? ⟨g4, 2, none⟩ = some (.int .i64 yt) ∧ w'.cell? ⟨g4, 3, none⟩ = some (.string yk) ∧ w'.cell? ⟨g4, 4, none⟩ = some (.string yb) ∧ w'.cell? ⟨g4, 5, none⟩ = some (.int .i64 ym) ∧ w'.cell? ⟨g4, 6, none⟩ = some (.bool yf) from
      ⟨(h.cell (cell_block x0)).trans x0, (h.cell (cell_block x1)).trans x1, (h.cell (cell_block x2)).trans x2, (h.cell (cell_block a0)).trans a0, (h.cell (cell_block a1)).trans a1, (h.cell (cell_block a2)).trans a2, (h.cell (cell_block a3)).trans a3, (h.cell (cell_block a4)).trans a4, (h.cell (cell_block a5)).trans a5, (h.cell (cell_block a6)).trans a6⟩)
     have bb1 : Below w3.heap.size w3 w3.drew := (Below.refl _ _).drew
     obtain ⟨ud, hud⟩ : ∃ ud, ud = w3.drew := ⟨_, rfl⟩
     refine wp_region_held_drew (S := fun w' => w'.cell? ⟨g0, 0, none⟩ = some (.int .i64 sc) ∧ w'.cell? ⟨g0, 1, none⟩ = some (.slice (some ⟨bl, o, none⟩) n ca) ∧ w'.cell? ⟨g0, 2, none⟩ = some (.slice B m cb) ∧ w'.cell? ⟨g4, 0, none⟩ = some (.int .i64 yi) ∧ w'.cell? ⟨g4, 1, none⟩ = some (.slice Q yg.length q) ∧ w'.cell? ⟨g4, 2, none⟩ = some (.int .i64 yt) ∧ w'.cell? ⟨g4, 3, none⟩ = some (.string yk) ∧ w'.cell? ⟨g4, 4, none⟩ = some (.string yb) ∧ w'.cell? ⟨g4, 5, none⟩ = some (.int .i64 ym) ∧ w'.cell? ⟨g4, 6, none⟩ = some (.bool yf)) (by kernel_rfl) (HSS.out _ bb1) (fun hHeld => ?_)
     rw [← hud] at bb1 hHeld ⊢
     clear hud
     refine qT 0 ?_; try simp only [Act.put, qq]
     refine qT 1 ?_; try simp only [Act.put, qq]
     refine qR 2 fun K hK => ?_
     go_simp
     refine (CM1.out _ bb1).mono ?_
     rintro e w4 ⟨rfl, hb⟩
     have bb2 := bmore bb1 hb n!
     clear hb
     refine hK.out _ _ (HSS.out _ bb2) (fun hHeld => ?_)
     clear hK
     try simp only [Act.put, qq]
     refine qT 3 ?_; try simp only [Act.put, qq]
     refine qT 4 ?_; try simp only [Act.put, qq]
     refine qT 5 ?_; try simp only [Act.put, qq]
     refine qT 6 ?_; try simp only [Act.put, qq]
     refine qT 7 ?_; try simp only [Act.put, qq]
     refine qR 8 fun K hK => ?_
     go_simp
     refine (CP1.out _).mono ?_
     rintro e w5 ⟨rfl, hb⟩
     have bb3 := bmore bb2 hb n!
     clear hb
     refine hK.out _ _ (HSS.out _ bb3) (fun hHeld => ?_)
     clear hK
     try simp only [Act.put, qq]
     refine qT 9 ?_; try simp only [Act.put, qq]
     refine qT 10 ?_; try simp only [Act.put, qq]
     refine qT 11 ?_; try simp only [Act.put, qq]
     refine qS 12 ?_; try simp only [Act.put, qq]
     refine qS 13 ?_; try simp only [Act.put, qq]
     refine qS 14 ?_; try simp only [Act.put, qq]
     refine qS 15 ?_; try simp only [Act.put, qq]
     refine qS 16 ?_; try simp only [Act.put, qq]
     refine qS 17 ?_; try simp only [Act.put, qq]
     refine qS 18 ?_; try simp only [Act.put, qq]
     refine qS 19 ?_; try simp only [Act.put, qq]
     refine qS 20 ?_; try simp only [Act.put, qq]
     refine qS 21 ?_; try simp only [Act.put, qq]
     refine qS 22 ?_; try simp only [Act.put, qq]
     refine qS 23 ?_; try simp only [Act.put, qq]
     refine qS 24 ?_; try simp only [Act.put, qq]
     refine qS 25 ?_; try simp only [Act.put, qq]
     refine qS 26 ?_; try simp only [Act.put, qq]
     refine qS 27 ?_; try simp only [Act.put, qq]
     refine qT 28 ?_; try simp only [Act.put, qq]
     refine wpAnyH_done (by kernel_rfl) ?_ _
     clear hHeld HSS
     clear CM1 CP1 x0 x1 x2 a0 a1 a2 a3 a4 a5 a6
     go_wp2_with fail
     go_ret
     exact ⟨rfl, bmore HB.out (bmore HBB.out bb3 n!) n!⟩
    ·have hT : 1 ≤ ym ∧ ym ≤ sc := by have := HPB.out; simpa using this.symm
     have HT := h! hT
     clear hT
     by_cases hk1 : k = 0
     ·subst hk1
      have NX := h! (all_next HS.out (HO1.out ⟨⟨HM.out, HT.out⟩, .inl rfl⟩))
      have g1 : decide ((0 : Int) < ((0 : Nat) : Int)) = false := by simp
      have HSS := h! (fun (w' : World) (h : Below w3.heap.size w3 w') => show w'.cell? ⟨g0, 0, none⟩ = some (.int .i64 sc) ∧ w'.cell? ⟨g0, 1, none⟩ = some (.slice (some ⟨bl, o, none⟩) n ca) ∧ w'.cell? ⟨g0, 2, none⟩ = some (.slice B m cb) ∧ w'.cell? ⟨g4, 0, none⟩ = some (.int .i64 yi) ∧ w'.cell? ⟨g4, 1, none⟩ = some (.slice Q yg.length q) ∧ w'.cell? ⟨g4, 2, none⟩ = some (.int .i64 yt) ∧ w'.cell? ⟨g4, 3, none⟩ = some (.string yk) ∧ w'.cell? ⟨g4, 4, none⟩ = some (.string yb) ∧ w'.cell? ⟨g4, 5, none⟩ = some (.int .i64 ym) ∧ w'.cell? ⟨g4, 6, none⟩ = some (.bool yf) from
       ⟨(h.cell (cell_block x0)).trans x0, (h.cell (cell_block x1)).trans x1, (h.cell (cell_block x2)).trans x2, (h.cell (cell_block a0)).trans a0, (h.cell (cell_block a1)).trans a1, (h.cell (cell_block a2)).trans a2, (h.cell (cell_block a3)).trans a3, (h.cell (cell_block a4)).trans a4, (h.cell (cell_block a5)).trans a5, (h.cell (cell_block a6)).trans a6⟩)
      have bb1 : Below w3.heap.size w3 w3.drew := (Below.refl _ _).drew
      obtain ⟨ud, hud⟩ : ∃ ud, ud = w3.drew := ⟨_, rfl⟩
      refine wp_region_held_drew (S := fun w' => w'.cell? ⟨g0, 0, none⟩ = some (.int .i64 sc) ∧ w'.cell? ⟨g0, 1, none⟩ = some (.slice (some ⟨bl, o, none⟩) n ca) ∧ w'.cell? ⟨g0, 2, none⟩ = some (.slice B m cb) ∧ w'.cell? ⟨g4, 0, none⟩ = some (.int .i64 yi) ∧ w'.cell? ⟨g4, 1, none⟩ = some (.slice Q yg.length q) ∧ w'.cell? ⟨g4, 2, none⟩ = some (.int .i64 yt) ∧ w'.cell? ⟨g4, 3, none⟩ = some (.string yk) ∧ w'.cell? ⟨g4, 4, none⟩ = some (.string yb) ∧ w'.cell? ⟨g4, 5, none⟩ = some (.int .i64 ym) ∧ w'.cell? ⟨g4, 6, none⟩ = some (.bool yf)) (by kernel_rfl) (HSS.out _ bb1) (fun hHeld => ?_)
      rw [← hud] at bb1 hHeld ⊢
      clear hud
      refine qT 0 ?_; try simp only [Act.put, qq]
      refine qT 1 ?_; try simp only [Act.put, qq]
      refine qR 2 fun K hK => ?_
      go_simp
      refine (CM1.out _ bb1).mono ?_
      rintro e w4 ⟨rfl, hb⟩
      have bb2 := bmore bb1 hb n!
      clear hb
      refine hK.out _ _ (HSS.out _ bb2) (fun hHeld => ?_)
      clear hK
      try simp only [Act.put, qq]
      refine qT 3 ?_; try simp only [Act.put, qq]
      refine qT 4 ?_; try simp only [Act.put, qq]
      refine qT 5 ?_; try simp only [Act.put, qq]
      refine qT 6 ?_; try simp only [Act.put, qq]
      refine qT 7 ?_; try simp only [Act.put, qq]
      refine qR 8 fun K hK => ?_
      go_simp
      refine (CP1.out _).mono ?_
      rintro e w5 ⟨rfl, hb⟩
      have bb3 := bmore bb2 hb n!
      clear hb
      refine hK.out _ _ (HSS.out _ bb3) (fun hHeld => ?_)
      clear hK
      try simp only [Act.put, qq]
      refine qT 9 ?_; try simp only [Act.put, qq]
      refine qT 10 ?_; try simp only [Act.put, qq]
      refine qT 11 ?_; try simp only [Act.put, qq]
      refine qT 12 ?_; try simp only [Act.put, qq]
      refine qT 13 ?_; try simp only [Act.put, qq]
      refine qT 14 ?_; try simp only [Act.put, qq]
      refine qS 15 ?_; try simp only [Act.put, qq]
      refine qS 16 ?_; try simp only [Act.put, qq]
      refine qS 17 ?_; try simp only [Act.put, qq]
      refine qS 18 ?_; try simp only [Act.put, qq]
      refine qS 19 ?_; try simp only [Act.put, qq]
      refine qS 20 ?_; try simp only [Act.put, qq]
      refine qS 21 ?_; try simp only [Act.put, qq]
      refine qS 22 ?_; try simp only [Act.put, qq]
      refine qS 23 ?_; try simp only [Act.put, qq]
      refine qS 24 ?_; try simp only [Act.put, qq]
      refine qS 25 ?_; try simp only [Act.put, qq]
      refine qS 26 ?_; try simp only [Act.put, qq]
      refine qT 27 ?_; try simp only [Act.put, qq]
      refine qT 28 ?_; try simp only [Act.put, qq]
      refine wpAnyH_done (by kernel_rfl) ?_ _
      clear hHeld HSS
      clear CM1 CP1 x0 x1 x2 a0 a1 a2 a3 a4 a5 a6
      go_wp2_with fail
      go_roundw
      case rel => exact ⟨_ + 1, by omega, by go_num, h! (bmore HBB.out bb3 n!), NX⟩
      case measure => simp [intOf]; omega
     ·obtain ⟨u, hu, u0⟩ := HR0.out w3 (Below.refl _ _) hk1
      have HU := h! hu
      have g1 : decide ((0 : Int) < (k : Int)) = true := by simp; omega
      have g1' : decide (0 < k) = true := by simp; omega
      have g2 : (k : Int) - 1 = ((k - 1 : Nat) : Int) := by omega
      have g3 : (0 : Int) ≤ ((k - 1 : Nat) : Int) := by omega
      have g4' : ((k - 1 : Nat) : Int) < (n : Int) := by omega
      have g5 : IntKind.i64.wrap ((k - 1 : Nat) : Int) = ((k - 1 : Nat) : Int) := by rw [IntKind.wrap_i64]; omega
      obtain ⟨ui, hui⟩ : ∃ ui, ui = u.m.id := ⟨_, rfl⟩
      have HUI := h! hui
      rw [← hui] at u0
      clear hui hu
      by_cases hd : ui < yi
      ·have NX := h! (all_next HS.out (HO1.out ⟨⟨HM.out, HT.out⟩, .inr fun u' hu' => by
        rw [HU.out] at hu'
        injection hu' with hu'
        rw [← hu', ← HUI.out]; exact hd⟩))
       have g6 : decide (yi ≤ ui) = false := by simp; omega
       have HSS := h! (fun (w' : World) (h : Below w3.heap.size w3 w') => show w'.cell? ⟨g0, 0, none⟩ = some (.int .i64 sc) ∧ w'.cell? ⟨g0, 1, none⟩ = some (.slice (some ⟨bl, o, none⟩) n ca) ∧ w'.cell? ⟨g0, 2, none⟩ = some (.slice B m cb) ∧ w'.cell? ⟨g4, 0, none⟩ = some (.int .i64 yi) ∧ w'.cell? ⟨g4, 1, none⟩ = some (.slice Q yg.length q) ∧ w'.cell? ⟨g4, 2, none⟩ = some (.int .i64 yt) ∧ w'.cell? ⟨g4, 3, none⟩ = some (.string yk) ∧ w'.cell? ⟨g4, 4, none⟩ = some (.string yb) ∧ w'.cell? ⟨g4, 5, none⟩ = some (.int .i64 ym) ∧ w'.cell? ⟨g4, 6, none⟩ = some (.bool yf) ∧ w'.cell? ⟨bl, o + (k - 1) * 7, none⟩ = some (.int .i64 ui) from
        ⟨(h.cell (cell_block x0)).trans x0, (h.cell (cell_block x1)).trans x1, (h.cell (cell_block x2)).trans x2, (h.cell (cell_block a0)).trans a0, (h.cell (cell_block a1)).trans a1, (h.cell (cell_block a2)).trans a2, (h.cell (cell_block a3)).trans a3, (h.cell (cell_block a4)).trans a4, (h.cell (cell_block a5)).trans a5, (h.cell (cell_block a6)).trans a6, (h.cell (cell_block u0)).trans u0⟩)
       have bb1 : Below w3.heap.size w3 w3.drew := (Below.refl _ _).drew
       obtain ⟨ud, hud⟩ : ∃ ud, ud = w3.drew := ⟨_, rfl⟩
       refine wp_region_held_drew (S := fun w' => w'.cell? ⟨g0, 0, none⟩ = some (.int .i64 sc) ∧ w'.cell? ⟨g0, 1, none⟩ = some (.slice (some ⟨bl, o, none⟩) n ca) ∧ w'.cell? ⟨g0, 2, none⟩ = some (.slice B m cb) ∧ w'.cell? ⟨g4, 0, none⟩ = some (.int .i64 yi) ∧ w'.cell? ⟨g4, 1, none⟩ = some (.slice Q yg.length q) ∧ w'.cell? ⟨g4, 2, none⟩ = some (.int .i64 yt) ∧ w'.cell? ⟨g4, 3, none⟩ = some (.string yk) ∧ w'.cell? ⟨g4, 4, none⟩ = some (.string yb) ∧ w'.cell? ⟨g4, 5, none⟩ = some (.int .i64 ym) ∧ w'.cell? ⟨g4, 6, none⟩ = some (.bool yf) ∧ w'.cell? ⟨bl, o + (k - 1) * 7, none⟩ = some (.int .i64 ui)) (by kernel_rfl) (HSS.out _ bb1) (fun hHeld => ?_)
       rw [← hud] at bb1 hHeld ⊢
       clear hud
       refine qT 0 ?_; try simp only [Act.put, qq]
       refine qT 1 ?_; try simp only [Act.put, qq]
       refine qR 2 fun K hK => ?_
       go_simp
       refine (CM1.out _ bb1).mono ?_
       rintro e w4 ⟨rfl, hb⟩
       have bb2 := bmore bb1 hb n!
       clear hb
       refine hK.out _ _ (HSS.out _ bb2) (fun hHeld => ?_)
       clear hK
       try simp only [Act.put, qq]
       refine qT 3 ?_; try simp only [Act.put, qq]
       refine qT 4 ?_; try simp only [Act.put, qq]
       refine qT 5 ?_; try simp only [Act.put, qq]
       refine qT 6 ?_; try simp only [Act.put, qq]
       refine qT 7 ?_; try simp only [Act.put, qq]
       refine qR 8 fun K hK => ?_
       go_simp
       refine (CP1.out _).mono ?_
       rintro e w5 ⟨rfl, hb⟩
       have bb3 := bmore bb2 hb n!
       clear hb
       refine hK.out _ _ (HSS.out _ bb3) (fun hHeld => ?_)
       clear hK
       try simp only [Act.put, qq]
       refine qT 9 ?_; try simp only [Act.put, qq]
       refine qT 10 ?_; try simp only [Act.put, qq]
       refine qT 11 ?_; try simp only [Act.put, qq]
       refine qT 12 ?_; try simp only [Act.put, qq]
       refine qT 13 ?_; try simp only [Act.put, qq]
       refine qT 14 ?_; try simp only [Act.put, qq]
       refine qT 15 ?_; try simp only [Act.put, qq]
       refine qT 16 ?_; try simp only [Act.put, qq]
       refine qT 17 ?_; try simp only [Act.put, qq]
       refine qT 18 ?_; try simp only [Act.put, qq]
       refine qT 19 ?_; try simp only [Act.put, qq]
       refine qT 20 ?_; try simp only [Act.put, qq]
       refine qT 21 ?_; try simp only [Act.put, qq]
       refine qT 22 ?_; try simp only [Act.put, qq]
       refine qT 23 ?_; try simp only [Act.put, qq]
       refine qT 24 ?_; try simp only [Act.put, qq]
       refine qT 25 ?_; try simp only [Act.put, qq]
       refine qT 26 ?_; try simp only [Act.put, qq]
       refine qT 27 ?_; try simp only [Act.put, qq]
       refine qT 28 ?_; try simp only [Act.put, qq]
       refine wpAnyH_done (by kernel_rfl) ?_ _
       clear hHeld HSS
       clear CM1 CP1 x0 x1 x2 a0 a1 a2 a3 a4 a5 a6 u0
       go_wp2_with fail
       go_roundw
       case rel => exact ⟨_ + 1, by omega, by go_num, h! (bmore HBB.out bb3 n!), NX⟩
       case measure => simp [intOf]; omega
      ·have g6 : decide (yi ≤ ui) = true := by simp; omega
       have e : b = false := by
        have h1 := HRB.out
        rcases b with _ | _
        ·rfl
        ·exact absurd (h1.1 rfl) (HN1.out fun h2 => h2.2.elim hk1 (fun h3 => by have h4 := h3 u HU.out; rw [← HUI.out] at h4; exact hd h4))
       subst e
       have HSS := h! (fun (w' : World) (h : Below w3.heap.size w3 w') => show w'.cell? ⟨g0, 0, none⟩ = some (.int .i64 sc) ∧ w'.cell? ⟨g0, 1, none⟩ = some (.slice (some ⟨bl, o, none⟩) n ca) ∧ w'.cell? ⟨g0, 2, none⟩ = some (.slice B m cb) ∧ w'.cell? ⟨g4, 0, none⟩ = some (.int .i64 yi) ∧ w'.cell? ⟨g4, 1, none⟩ = some (.slice Q yg.length q) ∧ w'.cell? ⟨g4, 2, none⟩ = some (.int .i64 yt) ∧ w'.cell? ⟨g4, 3, none⟩ = some (.string yk) ∧ w'.cell? ⟨g4, 4, none⟩ = some (.string yb) ∧ w'.cell? ⟨g4, 5, none⟩ = some (.int .i64 ym) ∧ w'.cell? ⟨g4, 6, none⟩ = some (.bool yf) ∧ w'.cell? ⟨bl, o + (k - 1) * 7, none⟩ = some (.int .i64 ui) from
        ⟨(h.cell (cell_block x0)).trans x0, (h.cell (cell_block x1)).trans x1, (h.cell (cell_block x2)).trans x2, (h.cell (cell_block a0)).trans a0, (h.cell (cell_block a1)).trans a1, (h.cell (cell_block a2)).trans a2, (h.cell (cell_block a3)).trans a3, (h.cell (cell_block a4)).trans a4, (h.cell (cell_block a5)).trans a5, (h.cell (cell_block a6)).trans a6, (h.cell (cell_block u0)).trans u0⟩)
       have bb1 : Below w3.heap.size w3 w3.drew := (Below.refl _ _).drew
       obtain ⟨ud, hud⟩ : ∃ ud, ud = w3.drew := ⟨_, rfl⟩
       refine wp_region_held_drew (S := fun w' => w'.cell? ⟨g0, 0, none⟩ = some (.int .i64 sc) ∧ w'.cell? ⟨g0, 1, none⟩ = some (.slice (some ⟨bl, o, none⟩) n ca) ∧ w'.cell? ⟨g0, 2, none⟩ = some (.slice B m cb) ∧ w'.cell? ⟨g4, 0, none⟩ = some (.int .i64 yi) ∧ w'.cell? ⟨g4, 1, none⟩ = some (.slice Q yg.length q) ∧ w'.cell? ⟨g4, 2, none⟩ = some (.int .i64 yt) ∧ w'.cell? ⟨g4, 3, none⟩ = some (.string yk) ∧ w'.cell? ⟨g4, 4, none⟩ = some (.string yb) ∧ w'.cell? ⟨g4, 5, none⟩ = some (.int .i64 ym) ∧ w'.cell? ⟨g4, 6, none⟩ = some (.bool yf) ∧ w'.cell? ⟨bl, o + (k - 1) * 7, none⟩ = some (.int .i64 ui)) (by kernel_rfl) (HSS.out _ bb1) (fun hHeld => ?_)
       rw [← hud] at bb1 hHeld ⊢
       clear hud
       refine qT 0 ?_; try simp only [Act.put, qq]
       refine qT 1 ?_; try simp only [Act.put, qq]
       refine qR 2 fun K hK => ?_
       go_simp
       refine (CM1.out _ bb1).mono ?_
       rintro e w4 ⟨rfl, hb⟩
       have bb2 := bmore bb1 hb n!
       clear hb
       refine hK.out _ _ (HSS.out _ bb2) (fun hHeld => ?_)
       clear hK
       try simp only [Act.put, qq]
       refine qT 3 ?_; try simp only [Act.put, qq]
       refine qT 4 ?_; try simp only [Act.put, qq]
       refine qT 5 ?_; try simp only [Act.put, qq]
       refine qT 6 ?_; try simp only [Act.put, qq]
       refine qT 7 ?_; try simp only [Act.put, qq]
       refine qR 8 fun K hK => ?_
       go_simp
       refine (CP1.out _).mono ?_
       rintro e w5 ⟨rfl, hb⟩
       have bb3 := bmore bb2 hb n!
       clear hb
       refine hK.out _ _ (HSS.out _ bb3) (fun hHeld => ?_)
       clear hK
       try simp only [Act.put, qq]
       refine qT 9 ?_; try simp only [Act.put, qq]
       refine qT 10 ?_; try simp only [Act.put, qq]
       refine qT 11 ?_; try simp only [Act.put, qq]
       refine qT 12 ?_; try simp only [Act.put, qq]
       refine qT 13 ?_; try simp only [Act.put, qq]
       refine qT 14 ?_; try simp only [Act.put, qq]
       refine qT 15 ?_; try simp only [Act.put, qq]
       refine qT 16 ?_; try simp only [Act.put, qq]
       refine qT 17 ?_; try simp only [Act.put, qq]
       refine qT 18 ?_; try simp only [Act.put, qq]
       refine qT 19 ?_; try simp only [Act.put, qq]
       refine qT 20 ?_; try simp only [Act.put, qq]
       refine qT 21 ?_; try simp only [Act.put, qq]
       refine qT 22 ?_; try simp only [Act.put, qq]
       refine qT 23 ?_; try simp only [Act.put, qq]
       refine qT 24 ?_; try simp only [Act.put, qq]
       refine qT 25 ?_; try simp only [Act.put, qq]
       refine qT 26 ?_; try simp only [Act.put, qq]
       refine qT 27 ?_; try simp only [Act.put, qq]
       refine qT 28 ?_; try simp only [Act.put, qq]
       refine wpAnyH_done (by kernel_rfl) ?_ _
       clear hHeld HSS
       clear CM1 CP1 x0 x1 x2 a0 a1 a2 a3 a4 a5 a6 u0
       go_wp2_with fail
       go_ret
       exact ⟨rfl, bmore HB.out (bmore HBB.out bb3 n!) n!⟩
   ·have e : b = false := by
     have h1 := HRB.out
     rcases b with _ | _
     ·rfl
     ·exact absurd (h1.1 rfl) (HN1.out fun h2 => by have h3 := HER.out; rw [if_pos h2.1.1] at h3; exact hm h3)
    subst e
    have hm1 : er = 120 := by
     have := HER.out
     split at this
     ·exact absurd this hm
     ·exact this
    clear hm
    subst hm1
    have HSS := h! (fun (w' : World) (h : Below w3.heap.size w3 w') => show w'.cell? ⟨g0, 0, none⟩ = some (.int .i64 sc) ∧ w'.cell? ⟨g0, 1, none⟩ = some (.slice (some ⟨bl, o, none⟩) n ca) ∧ w'.cell? ⟨g0, 2, none⟩ = some (.slice B m cb) ∧ w'.cell? ⟨g4, 0, none⟩ = some (.int .i64 yi) ∧ w'.cell? ⟨g4, 1, none⟩ = some (.slice Q yg.length q) ∧ w'.cell? ⟨g4, 2, none⟩ = some (.int .i64 yt) ∧ w'.cell? ⟨g4, 3, none⟩ = some (.string yk) ∧ w'.cell? ⟨g4, 4, none⟩ = some (.string yb) ∧ w'.cell? ⟨g4, 5, none⟩ = some (.int .i64 ym) ∧ w'.cell? ⟨g4, 6, none⟩ = some (.bool yf) from
     ⟨(h.cell (cell_block x0)).trans x0, (h.cell (cell_block x1)).trans x1, (h.cell (cell_block x2)).trans x2, (h.cell (cell_block a0)).trans a0, (h.cell (cell_block a1)).trans a1, (h.cell (cell_block a2)).trans a2, (h.cell (cell_block a3)).trans a3, (h.cell (cell_block a4)).trans a4, (h.cell (cell_block a5)).trans a5, (h.cell (cell_block a6)).trans a6⟩)
    have bb1 : Below w3.heap.size w3 w3.drew := (Below.refl _ _).drew
    obtain ⟨ud, hud⟩ : ∃ ud, ud = w3.drew := ⟨_, rfl⟩
    refine wp_region_held_drew (S := fun w' => w'.cell? ⟨g0, 0, none⟩ = some (.int .i64 sc) ∧ w'.cell? ⟨g0, 1, none⟩ = some (.slice (some ⟨bl, o, none⟩) n ca) ∧ w'.cell? ⟨g0, 2, none⟩ = some (.slice B m cb) ∧ w'.cell? ⟨g4, 0, none⟩ = some (.int .i64 yi) ∧ w'.cell? ⟨g4, 1, none⟩ = some (.slice Q yg.length q) ∧ w'.cell? ⟨g4, 2, none⟩ = some (.int .i64 yt) ∧ w'.cell? ⟨g4, 3, none⟩ = some (.string yk) ∧ w'.cell? ⟨g4, 4, none⟩ = some (.string yb) ∧ w'.cell? ⟨g4, 5, none⟩ = some (.int .i64 ym) ∧ w'.cell? ⟨g4, 6, none⟩ = some (.bool yf)) (by kernel_rfl) (HSS.out _ bb1) (fun hHeld => ?_)
    rw [← hud] at bb1 hHeld ⊢
    clear hud
    refine qT 0 ?_; try simp only [Act.put, qq]
    refine qT 1 ?_; try simp only [Act.put, qq]
    refine qR 2 fun K hK => ?_
    go_simp
    refine (CM1.out _ bb1).mono ?_
    rintro e w4 ⟨rfl, hb⟩
    have bb2 := bmore bb1 hb n!
    clear hb
    refine hK.out _ _ (HSS.out _ bb2) (fun hHeld => ?_)
    clear hK
    try simp only [Act.put, qq]
    refine qT 3 ?_; try simp only [Act.put, qq]
    refine qT 4 ?_; try simp only [Act.put, qq]
    refine qS 5 ?_; try simp only [Act.put, qq]
    refine qS 6 ?_; try simp only [Act.put, qq]
    refine qS 7 ?_; try simp only [Act.put, qq]
    refine qS 8 ?_; try simp only [Act.put, qq]
    refine qS 9 ?_; try simp only [Act.put, qq]
    refine qT 10 ?_; try simp only [Act.put, qq]
    refine qT 11 ?_; try simp only [Act.put, qq]
    refine qS 12 ?_; try simp only [Act.put, qq]
    refine qS 13 ?_; try simp only [Act.put, qq]
    refine qS 14 ?_; try simp only [Act.put, qq]
    refine qS 15 ?_; try simp only [Act.put, qq]
    refine qS 16 ?_; try simp only [Act.put, qq]
    refine qS 17 ?_; try simp only [Act.put, qq]
    refine qS 18 ?_; try simp only [Act.put, qq]
    refine qS 19 ?_; try simp only [Act.put, qq]
    refine qS 20 ?_; try simp only [Act.put, qq]
    refine qS 21 ?_; try simp only [Act.put, qq]
    refine qS 22 ?_; try simp only [Act.put, qq]
    refine qS 23 ?_; try simp only [Act.put, qq]
    refine qS 24 ?_; try simp only [Act.put, qq]
    refine qS 25 ?_; try simp only [Act.put, qq]
    refine qS 26 ?_; try simp only [Act.put, qq]
    refine qS 27 ?_; try simp only [Act.put, qq]
    refine qT 28 ?_; try simp only [Act.put, qq]
    refine wpAnyH_done (by kernel_rfl) ?_ _
    clear hHeld HSS
    clear CM1 CP1 x0 x1 x2 a0 a1 a2 a3 a4 a5 a6
    go_wp2_with fail
    go_ret
    exact ⟨rfl, bmore HB.out (bmore HBB.out bb2 n!) n!⟩
  ·have hkn : k = n := by omega
   have e : b = true := HRB.out.2 (HI.out.2 ⟨by omega, fun j hj => HS.out j (by omega)⟩)
   subst e
   go_wp2_with fail
   go_ret
   exact ⟨rfl, bmore HB.out HW1.out n!⟩
end KP
end Go.Proofs.YteebeiaokfenmaaGreat
