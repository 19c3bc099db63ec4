/-
  The laws' own finished, over a clock and commands that came in (towncrierlaw15). Conditions: they read as such.
  The laws' own after (towncrierlaw15): a clock behind some commands, and what was delivered; over skeen's Apply and New as premises. Conditions: commands that read as such, 60 of them, of short lists.
-/
import Derived.Test.YtnpgjcapekopnaaK19
import Derived.Test.YtnpgjcapekopnaaK15
import Derived.Test.YtnpgjcapekopnaaK18
import Derived.Test.YtnpgjcapekopnaaK17
namespace Go.Proofs.Ytnpgjcapekopnaa.KP
open Go.RowKit CP TP
open CM (Mg Cm)
open TM (Sp)
open KM (Wt Sk)
set_option linter.unusedVariables false
set_option linter.unusedSimpArgs false
set_option maxRecDepth 100000

theorem CmsArg.below {w w' : World} {A : Option Addr} {n c : Nat} {es : List LP.El} (h : CmsArg w A n c es) (hb : Below w.heap.size w w') : CmsArg w' A n c es := by
  obtain ⟨h1, h2, h3, h4, h5⟩ := h
  exact ⟨h1.below hb, h2, h3, h4, fun e he => ⟨(h5 e he).1.below hb, (h5 e he).2.1.below hb, (h5 e he).2.2⟩⟩
theorem CmsArg.small {w : World} {A : Option Addr} {n c : Nat} {es : List LP.El} (h : CmsArg w A n c es) : n ≤ 9223372036854775807 := by
  have h1 := h.2.2.1
  have h2 := h.2.2.2.1
  unfold maxLen at h2
  omega
theorem CmsArg.at_ {w : World} {A : Option Addr} {n c k : Nat} {es : List LP.El} {e : LP.El} (h : CmsArg w A n c es) (hk : es[k]? = some e) : ∃ bl o, A = some ⟨bl, o, none⟩ ∧ k < n ∧ bl < w.heap.size ∧ LP.At12 w bl (o + k * 12) e ∧ RowIs w e.A e.c e.x.m.gs ∧ RowIs w e.B e.d e.x.ms := by
  obtain ⟨h2, h3, _, _, h5⟩ := h
  have hkl := (List.getElem?_eq_some_iff.1 hk).1
  obtain ⟨ad, ea, hb, hc⟩ := h2.2 (by omega)
  have hp : 0 < (LP.ecells es).length := by rw [LP.ecells_len]; omega
  have h0 := hc 0 _ (List.getElem?_eq_getElem hp)
  rw [show ad.add 0 = ad from by simp [Addr.add]] at h0
  have hsp := spot_none h0
  obtain ⟨bl, o, sp⟩ := ad
  simp only at hsp
  subst hsp
  have h6 := h5 e (List.mem_of_getElem? hk)
  refine ⟨bl, o, ea, by omega, hb, LP.at12_of fun j hj => ?_, h6.1, h6.2.1⟩
  have hu := LP.ecells_at hk j hj
  obtain ⟨u, hu2⟩ : ∃ u, (LP.ecell e)[j]? = some u := ⟨_, List.getElem?_eq_getElem (by rw [LP.ecell_len]; exact hj)⟩
  rw [hu2] at hu ⊢
  have := hc (k * 12 + j) u hu
  rw [add_none] at this
  rw [Nat.add_assoc]
  exact this
set_option maxHeartbeats 8000000 in
theorem finished15_any (v : Value) (s : Sk) (A2 : Option Addr) (n2 c2 : Nat) (es : List LP.El) (p : Sp) (r : Bool) (w : World) (h : SkIs w v s) (hc : CmsArg w A2 n2 c2 es) (hr : r = true ↔ KM.Fin s (es.map LP.El.x) p) :
    Calls Try.prog 19 #[v, .slice A2 n2 c2, vsp p] w (IsB r w) := by
  obtain ⟨A, c, B, d, rfl, h1, h2⟩ := h
  obtain ⟨sc, ws, ds⟩ := s
  obtain ⟨pt, pi⟩ := p
  simp only at h1 h2
  obtain ⟨n, hn⟩ : ∃ n, n = ws.length := ⟨_, rfl⟩
  unfold vsk vsp
  simp only
  rw [← hn] at h1 ⊢
  have HR := Lib.hid hr
  have HL := Lib.hid hn
  have HL2 := Lib.hid hc.2.1
  have hn63 := h1.small
  have hm63 := hc.small
  have H := Lib.hid (fun W (hb : Below w.heap.size w W) => h1.below hb)
  have HC := Lib.hid (fun W (hb : Below w.heap.size w W) => hc.below hb)
  have HB := Lib.hid (show Below w.heap.size w ((w.alloc (.cells #[.int .i64 sc, .slice A n c, .slice B ds.length d] 25)).alloc (.cells #[.int .i64 pt, .int .i64 pi] 50)) from ((Below.refl _ _).alloc (Nat.le_refl _) _).alloc (by simp) _)
  have X := Lib.hid ((Box.new w 25 #[.int .i64 sc, .slice A n c, .slice B ds.length d]).alloc (.cells #[.int .i64 pt, .int .i64 pi] 50))
  have Y := Lib.hid (Box.new_at (w := w.alloc (.cells #[.int .i64 sc, .slice A n c, .slice B ds.length d] 25)) (t := 50) (cs := #[.int .i64 pt, .int .i64 pi]) (w.heap.size + 1) (by simp))
  clear h1 h2 hr hn hc
  go_enter Try.func19, Try.ntmps19
  go_upto_region 1 with (fail)
  generalize (w.alloc (.cells #[.int .i64 sc, .slice A n c, .slice B ds.length d] 25)).alloc (.cells #[.int .i64 pt, .int .i64 pi] 50) = w1 at HB X Y ⊢
  obtain ⟨g0, hg0⟩ : ∃ g0, w.heap.size = g0 := ⟨_, rfl⟩
  rw [hg0] at X Y
  simp only [hg0]
  have HG := Lib.hid hg0
  clear hg0
  go_wp2_with fail
  go_loopw [7] (fun i wr => ∃ k : Nat, k ≤ n ∧ i = .int .i64 k ∧ Below w1.heap.size w1 wr ∧ Hid (∀ j y, j < k → ws[j]? = some y → ¬ (y.f = true ∧ y.m.id = pi ∧ y.t = pt))) (fun i _ => n - (intOf i).toNat)
  case atStart => exact ⟨0, by omega, rfl, Below.refl _ _, Lib.hid fun j y hj => absurd hj (by omega)⟩
  case round =>
    obtain ⟨k, hk, rfl, hB, HN⟩ := hrel
    have HB2 := Lib.hid hB
    obtain ⟨x0, x1, x2⟩ := box_sk (X.out.below hB X.out.lt)
    obtain ⟨y0, y1⟩ := box_two (Y.out.below hB Y.out.lt)
    clear hB
    by_cases hlt : k < n
    · obtain ⟨a, ha⟩ : ∃ a, ws[k]? = some a := ⟨_, List.getElem?_eq_getElem (by have := HL.out; omega)⟩
      have HA := Lib.hid ha
      obtain ⟨bl, o, P, q, rfl, _, _, hat, _⟩ := wts_at (H.out _ (bmore HB.out HB2.out (Nat.le_refl _))) ha
      obtain ⟨a0, a1, a2, a3, a4, a5, a6⟩ := hat
      clear ha
      have hk0 : (0 : Int) ≤ (k : Int) := by omega
      have hkn : (k : Int) < (n : Int) := by omega
      have HF := Lib.hid (show ¬ (a.f = true ∧ a.m.id = pi ∧ a.t = pt) → ∀ j y, j < k + 1 → ws[j]? = some y → ¬ (y.f = true ∧ y.m.id = pi ∧ y.t = pt) from fun hne j y hj hy => by
        rcases (show j < k ∨ j = k by omega) with h | rfl
        · exact HN.out j y h hy
        · rw [HA.out] at hy; injection hy with hy; subst hy; exact hne)
      have HT := Lib.hid (show (a.f = true ∧ a.m.id = pi ∧ a.t = pt) → r = true from fun hh => HR.out.2 (.inl ⟨a, List.mem_of_getElem? HA.out, hh⟩))
      clear HA
      obtain ⟨⟨ai, ag, at_, ak, ab⟩, am, af⟩ := a
      simp only at a0 a1 a2 a3 a4 a5 a6 HF HT
      rcases af with _ | _
      · have HF2 := Lib.hid (HF.out (fun h => by cases h.1))
        clear HF HT
        go_wp2_with fail
        go_quiet (fail)
        go_wp2_with fail
        go_roundw
        case rel => exact ⟨k + 1, by omega, by go_num, below_drewN HB2.out _, HF2⟩
        case measure => simp [intOf]; omega
      · by_cases he : ai = pi
        · have e1 : (ai == pi) = true := by simpa using he
          by_cases ht : am = pt
          · have e2 : (am == pt) = true := by simpa using ht
            have HT2 := Lib.hid (HT.out ⟨rfl, he, ht⟩)
            clear HF HT he ht
            go_wp2_with fail
            go_quiet (fail)
            go_wp2_with fail
            go_ret
            exact ⟨by rw [HT2.out]; rfl, below_drewN (bmore HB.out HB2.out (Nat.le_refl _)) _⟩
          · have e2 : (am == pt) = false := by simpa using ht
            have HF2 := Lib.hid (HF.out (fun h => ht h.2.2))
            clear HF HT he ht
            go_wp2_with fail
            go_quiet (fail)
            go_wp2_with fail
            go_roundw
            case rel => exact ⟨k + 1, by omega, by go_num, below_drewN HB2.out _, HF2⟩
            case measure => simp [intOf]; omega
        · have e1 : (ai == pi) = false := by simpa using he
          have HF2 := Lib.hid (HF.out (fun h => he h.2.1))
          clear HF HT he
          go_wp2_with fail
          go_quiet (fail)
          go_wp2_with fail
          go_roundw
          case rel => exact ⟨k + 1, by omega, by go_num, below_drewN HB2.out _, HF2⟩
          case measure => simp [intOf]; omega
    · have HN0 := Lib.hid (show ∀ y ∈ ws, ¬ (y.f = true ∧ y.m.id = pi ∧ y.t = pt) from fun y hy => by
        obtain ⟨j, hj⟩ := List.getElem?_of_mem hy
        exact HN.out j y (by have := (List.getElem?_eq_some_iff.1 hj).1; have := HL.out; omega) hj)
      clear HN
      go_wp2_with fail
      go_loopw [8] (fun i wq => ∃ k : Nat, k ≤ n2 ∧ i = .int .i64 k ∧ Below w1.heap.size w1 wq ∧ Hid (∀ j y, j < k → es[j]? = some y → ¬ (y.x.k = 2 ∧ y.x.id = pi ∧ y.x.tm = pt))) (fun i _ => n2 - (intOf i).toNat)
      case atStart => exact ⟨0, by omega, rfl, HB2.out, Lib.hid fun j y hj => absurd hj (by omega)⟩
      case round =>
        clear HB2
        obtain ⟨k, hk, rfl, hB, HN⟩ := hrel
        have HB2 := Lib.hid hB
        obtain ⟨y0, y1⟩ := box_two (Y.out.below hB Y.out.lt)
        clear hB
        by_cases hlt : k < n2
        · obtain ⟨a, ha⟩ : ∃ a, es[k]? = some a := ⟨_, List.getElem?_eq_getElem (by have := HL2.out; omega)⟩
          have HA := Lib.hid ha
          obtain ⟨bl, o, rfl, _, _, hat, _⟩ := (HC.out _ (bmore HB.out HB2.out (Nat.le_refl _))).at_ ha
          obtain ⟨a0, a1, a2, a3, a4, a5, a6, a7, a8, a9, a10, a11⟩ := hat
          clear ha a1 a2 a3 a4 a5 a8 a9 a10 a11
          have hk0 : (0 : Int) ≤ (k : Int) := by omega
          have hkn : (k : Int) < (n2 : Int) := by omega
          have HF := Lib.hid (show ¬ (a.x.k = 2 ∧ a.x.id = pi ∧ a.x.tm = pt) → ∀ j y, j < k + 1 → es[j]? = some y → ¬ (y.x.k = 2 ∧ y.x.id = pi ∧ y.x.tm = pt) from fun hne j y hj hy => by
            rcases (show j < k ∨ j = k by omega) with h | rfl
            · exact HN.out j y h hy
            · rw [HA.out] at hy; injection hy with hy; subst hy; exact hne)
          have HT := Lib.hid (show (a.x.k = 2 ∧ a.x.id = pi ∧ a.x.tm = pt) → r = true from fun hh => HR.out.2 (.inr ⟨a.x, List.mem_map.2 ⟨a, List.mem_of_getElem? HA.out, rfl⟩, hh⟩))
          clear HA
          generalize a.x.k = bk at a0 HF HT
          generalize a.x.id = bi at a6 HF HT
          generalize a.x.tm = bt at a7 HF HT
          by_cases hk2 : bk = 2
          · have e0 : (bk == 2) = true := by simpa using hk2
            by_cases he : bi = pi
            · have e1 : (bi == pi) = true := by simpa using he
              by_cases ht : bt = pt
              · have e2 : (bt == pt) = true := by simpa using ht
                have HT2 := Lib.hid (HT.out ⟨hk2, he, ht⟩)
                clear HF HT he ht hk2
                go_wp2_with fail
                go_quiet (fail)
                go_wp2_with fail
                go_ret
                exact ⟨by rw [HT2.out]; rfl, below_drewN (bmore HB.out HB2.out (Nat.le_refl _)) _⟩
              · have e2 : (bt == pt) = false := by simpa using ht
                have HF2 := Lib.hid (HF.out (fun h => ht h.2.2))
                clear HF HT he ht hk2
                go_wp2_with fail
                go_quiet (fail)
                go_wp2_with fail
                go_roundw
                case rel => exact ⟨k + 1, by omega, by go_num, below_drewN HB2.out _, HF2⟩
                case measure => simp [intOf]; omega
            · have e1 : (bi == pi) = false := by simpa using he
              have HF2 := Lib.hid (HF.out (fun h => he h.2.1))
              clear HF HT he hk2
              go_wp2_with fail
              go_quiet (fail)
              go_wp2_with fail
              go_roundw
              case rel => exact ⟨k + 1, by omega, by go_num, below_drewN HB2.out _, HF2⟩
              case measure => simp [intOf]; omega
          · have e0 : (bk == 2) = false := by simpa using hk2
            have HF2 := Lib.hid (HF.out (fun h => hk2 h.1))
            clear HF HT hk2
            go_wp2_with fail
            go_quiet (fail)
            go_wp2_with fail
            go_roundw
            case rel => exact ⟨k + 1, by omega, by go_num, below_drewN HB2.out _, HF2⟩
            case measure => simp [intOf]; omega
        · have HF := Lib.hid (show r = false by
            rcases hrr : r with _ | _
            · rfl
            · exfalso
              rcases HR.out.1 hrr with ⟨x, hx, hh⟩ | ⟨x, hx, hh⟩
              · exact HN0.out x hx hh
              · obtain ⟨e, he, rfl⟩ := List.mem_map.1 hx
                obtain ⟨j, hj⟩ := List.getElem?_of_mem he
                exact HN.out j e (by have := (List.getElem?_eq_some_iff.1 hj).1; have := HL2.out; omega) hj hh)
          go_wp2_with fail
          go_ret
          exact ⟨by rw [HF.out]; rfl, bmore HB.out HB2.out (Nat.le_refl _)⟩
end Go.Proofs.Ytnpgjcapekopnaa.KP

namespace Go.Proofs.Ytnpgjcapekopnaa.KP
open Go.RowKit CP TP
open CM (Mg Cm)
open TM (Sp)
open KM (Wt Sk)
set_option linter.unusedVariables false
set_option linter.unusedSimpArgs false
set_option maxRecDepth 100000

def PNew : Prop := ∀ w : World, Calls Try.prog 20 #[] w (SkNew KM.zero w)
theorem apply_no {s : Sk} {g : Int} {c : Cm} (h : (KM.applyF s g c).2.2 ≠ 0) : (KM.applyF s g c).2.1 = [] := by
  unfold KM.applyF at h ⊢
  split
  · rfl
  · split
    · rfl
    · split
      · rfl
      · split
        · rename_i h1 h2 h3 h4
          rw [if_neg h1, if_neg h2, if_neg h3, if_pos h4] at h
          exact absurd rfl h
        · rfl
theorem apply_len (s : Sk) (g : Int) (c : Cm) : (KM.applyF s g c).2.1.length ≤ 200 := by
  by_cases h : (KM.applyF s g c).2.2 = 0
  · obtain ⟨_, h2, _, gone, h4, h5, _⟩ := KM.apply_ok h
    have h6 := h2.1.2.2.2
    rw [h4] at h6
    rw [h5]
    simp at h6 ⊢
    omega
  · rw [apply_no h]
    exact Nat.zero_le _
theorem af_take {l : List Cm} {k : Nat} {c : Cm} (h : l[k]? = some c) : af (l.take (k + 1)) = step (af (l.take k)) c := by
  rw [List.take_add_one, h]
  exact af_snoc _ _
theorem af_fit (l : List Cm) : SkFit (af l).1 := by
  rcases List.eq_nil_or_concat l with rfl | ⟨l', c, rfl⟩
  · exact fit_zero
  · rw [List.concat_eq_append, af_snoc]
    exact fit_apply _ _ _
theorem af_len : ∀ (l : List Cm) (k : Nat), (af (l.take k)).2.1.length ≤ 200 * k
  | l, 0 => by simp [af]
  | l, k + 1 => by
    rcases h : l[k]? with _ | c
    · have h1 := af_len l k
      have h2 : l.take (k + 1) = l.take k := by rw [List.take_add_one, h]; simp
      rw [h2]
      omega
    · rw [af_take h]
      have h1 := af_len l k
      have h2 := apply_len (af (l.take k)).1 0 c
      simp only [step, List.length_append]
      omega
section
variable {α : Type} {K : Kd α} {w w' : World} {b : Nat} {T T' : TypeId} {v : Value} {l : List α}
theorem ko_ne (h : KO K w b T v l) {g : Nat} {t : TypeId} {cs : Array Value} (hx : Box w g t cs) (hne : T ≠ t) : some g ≠ v.ownBlock := by
  obtain ⟨es, _, h2, _⟩ := h
  exact own_ne h2 hx hne
theorem ko_grown {r : Option Nat} (h : KO K w b T v l) (hg : w.grownBy w' r) (hr : ∀ g, r = some g → ∃ cur, Box w g T' cur) (h1 : T' ≠ T) (h2 : T' ≠ 3) : KO K w' b T v l := by
  obtain ⟨es, e1, e2, e3⟩ := h
  refine ⟨es, e1, own_grown e2 hg (fun g hv k => ?_), fun e he => ⟨rowGe_grown (e3 e he).1 hg (fun ad ea hn k => ?_), (e3 e he).2⟩⟩
  · obtain ⟨cur, hc⟩ := hr g k.symm
    exact own_ne e2 hc (fun q => h1 q.symm) hv.symm
  · obtain ⟨cur, hc⟩ := hr _ k
    obtain ⟨g, cg, k1, _, k3, _⟩ := (e3 e he).1.3 hn
    rw [ea] at k1
    injection k1 with k1
    rw [k1] at hc
    exact h2 (box_type hc k3)
end
/-- what 'after' answers -/
def AfIs (R : Sk × List Mg × Bool) (w : World) (e : Ending) (w' : World) : Prop := ∃ v vm, e = .returned (.tuple #[v, vm, .bool R.2.2]) ∧ SkO w' w.heap.size v R.1 ∧ KO KM_ w' w.heap.size 31 vm R.2.1 ∧ Below w.heap.size w w'
/-- behind some of the commands -/
structure AfR (w : World) (p2 p5 : Nat) (R : Sk × List Mg × Bool) (vm : Value) (W : World) : Prop where
  bl : Below w.heap.size w W
  lo : w.heap.size ≤ p2 ∧ w.heap.size ≤ p5 ∧ p2 ≠ p5
  b2 : Box W p2 25 #[.int .i64 0, .slice none 0 0, .slice none 0 0]
  b5 : ∃ A c B d, Box W p5 25 #[.int .i64 R.1.c, .slice A R.1.ws.length c, .slice B R.1.ds.length d] ∧ KO KW W w.heap.size 55 (.slice A R.1.ws.length c) R.1.ws ∧ W.ownsRow w.heap.size 50 2 (.slice B R.1.ds.length d) R.1.ds.length (flat spc R.1.ds)
  ms : KO KM_ W w.heap.size 31 vm R.2.1
/-- the variables of what Apply answered -/
def AfMid (wr : World) (S : Sk × List Mg × Int) (u9 u10 u11 : Value) (wx : World) : Prop :=
  ∃ p9 A c B d E f, u9 = .pointer (some ⟨p9, 0, none⟩) ∧ u10 = .slice E S.2.1.length f ∧ u11 = .int .i64 S.2.2 ∧ wr.heap.size ≤ p9 ∧ Box wx p9 25 #[.int .i64 S.1.c, .slice A S.1.ws.length c, .slice B S.1.ds.length d] ∧
    KO KW wx wr.heap.size 55 (.slice A S.1.ws.length c) S.1.ws ∧ wx.ownsRow wr.heap.size 50 2 (.slice B S.1.ds.length d) S.1.ds.length (flat spc S.1.ds) ∧ KO KM_ wx wr.heap.size 31 (.slice E S.2.1.length f) S.2.1 ∧ Below wr.heap.size wr wx
theorem afR_next {w W W5 W6 : World} {p2 p5 : Nat} {R : Sk × List Mg × Bool} {vm vm6 : Value} {x : Cm} {A B : Option Addr} {c d : Nat} (h : AfR w p2 p5 R vm W) (hb : Below W.heap.size W W5)
    (k1 : KO KW W5 W.heap.size 55 (.slice A (KM.applyF R.1 0 x).1.ws.length c) (KM.applyF R.1 0 x).1.ws) (k2 : W5.ownsRow W.heap.size 50 2 (.slice B (KM.applyF R.1 0 x).1.ds.length d) (KM.applyF R.1 0 x).1.ds.length (flat spc (KM.applyF R.1 0 x).1.ds))
    (hko : ∀ W0, W0 = ((W5.setCell ⟨p5, 0, none⟩ (.int .i64 (KM.applyF R.1 0 x).1.c)).setCell ⟨p5, 1, none⟩ (.slice A (KM.applyF R.1 0 x).1.ws.length c)).setCell ⟨p5, 2, none⟩ (.slice B (KM.applyF R.1 0 x).1.ds.length d) → W0.grownBy W6 vm.ownBlock ∧ KO KM_ W6 w.heap.size 31 vm6 (R.2.1 ++ (KM.applyF R.1 0 x).2.1)) :
    AfR w p2 p5 (step R x) vm6 W6 := by
  obtain ⟨hg, hk⟩ := hko _ rfl
  obtain ⟨A0, c0, B0, d0, b5, _, _⟩ := h.b5
  have b5' := b5.below hb b5.lt
  have b2' := h.b2.below hb h.b2.lt
  have KP1 := kept_put3 b5' (.int .i64 (KM.applyF R.1 0 x).1.c) (.slice A (KM.applyF R.1 0 x).1.ws.length c) (.slice B (KM.applyF R.1 0 x).1.ds.length d)
  have bx5 := Box.put3 b5' (.int .i64 (KM.applyF R.1 0 x).1.c) (.slice A (KM.applyF R.1 0 x).1.ws.length c) (.slice B (KM.applyF R.1 0 x).1.ds.length d)
  have bx2 := ((b2'.far (p := ⟨p5, 0, none⟩) h.lo.2.2 (.int .i64 (KM.applyF R.1 0 x).1.c)).far (p := ⟨p5, 1, none⟩) h.lo.2.2 (.slice A (KM.applyF R.1 0 x).1.ws.length c)).far (p := ⟨p5, 2, none⟩) h.lo.2.2 (.slice B (KM.applyF R.1 0 x).1.ds.length d)
  have hms := KO.kept KP1 (by decide) (by decide) (h.ms.below hb)
  have hsz : w.heap.size ≤ W.heap.size := h.bl.size
  have hbl := below_put3 (bmore h.bl hb (Nat.le_refl _)) h.lo.2.1 (.int .i64 (KM.applyF R.1 0 x).1.c) (.slice A (KM.applyF R.1 0 x).1.ws.length c) (.slice B (KM.applyF R.1 0 x).1.ds.length d)
  obtain ⟨es, _, ho, _⟩ := id hms
  have hty : ∀ g, vm.ownBlock = some g → ∃ cur, Box (((W5.setCell ⟨p5, 0, none⟩ (.int .i64 (KM.applyF R.1 0 x).1.c)).setCell ⟨p5, 1, none⟩ (.slice A (KM.applyF R.1 0 x).1.ws.length c)).setCell ⟨p5, 2, none⟩ (.slice B (KM.applyF R.1 0 x).1.ds.length d)) g 31 cur := fun g hv => (own_block ho hv).2
  refine ⟨below_row hbl ho (by simp; have := hb.size; omega) hg, h.lo, bx2.grown hg (ko_ne hms bx2 (by decide)), ⟨A, c, B, d, bx5.grown hg (ko_ne hms bx5 (by decide)), ?_, ?_⟩, hk⟩
  · exact KO.mono (ko_grown (KO.kept KP1 (by decide) (by decide) k1) hg hty (by decide) (by decide)) hsz
  · exact own_base (own_grown (KP1.own k2 (by decide)) hg (own_ne2 ho (KP1.own k2 (by decide)) (by decide))) hsz
end Go.Proofs.Ytnpgjcapekopnaa.KP
