/-
  Package order: tell. Conditions: a player of a log that may be.
-/
import Derived.Test.YteebeiaokfenmaaGreatK46
import Derived.Test.YteebeiaokfenmaaGreatK44
import Derived.Test.YteebeiaokfenmaaGreatK47
namespace Go.Proofs.YteebeiaokfenmaaGreat.KP
open Go.RowKit CP TP LP
open CM (Mg Cm)
open TM (Sp)
open KM (Wt Sk)
set_option linter.unusedVariables false
set_option linter.unusedSimpArgs false
set_option maxRecDepth 100000
/-- commands that are read -/
def CmR (w : World) (v : Value) (l : List Cm) : Prop := ∃ es : List El, es.map (fun e => e.x) = l ∧ Row w.heap.size w v es ∧ ∀ e ∈ es, RowIs w e.A e.c e.x.m.gs ∧ RowIs w e.B e.d e.x.ms
theorem row_mono {n m : Nat} {W : World} {sv : Value} {es : List El} (h : Row n W sv es) (hn : n ≤ m) : Row m W sv es := by
  rcases h with e | ⟨b, off, cap, e, hb, hc⟩
  · exact .inl e
  · exact .inr ⟨b, off, cap, e, by omega, hc⟩
theorem CmR.below {w w' : World} {v : Value} {l : List Cm} (h : CmR w v l) (hb : Below w.heap.size w w') : CmR w' v l := by
  obtain ⟨es, h1, h2, h3⟩ := h
  exact ⟨es, h1, row_mono (h2.below hb) hb.size, fun e he => ⟨(h3 e he).1.below hb, (h3 e he).2.below hb⟩⟩
theorem CX.r {W0 w : World} {b : Nat} {v : Value} {l : List Cm} (h : CX W0 w b v l) (hb : Below W0.heap.size W0 w) : CmR w v l := by
  obtain ⟨es, h1, h2, h3⟩ := h
  refine ⟨es, h1, ?_, fun e he => ⟨(h3 e he).1.below hb, (h3 e he).2.below hb⟩⟩
  rcases Nat.eq_zero_or_pos es.length with h0 | h0
  · obtain rfl := List.length_eq_zero_iff.1 h0
    rcases h2.2 with ⟨e, _⟩ | ⟨g, cap, cur, e, hb, hx, h5⟩
    · exact .inl ⟨e, rfl⟩
    · have hlt : g < w.heap.size := by
        rcases Nat.lt_or_ge g w.heap.size with k | k
        · exact k
        · rw [Array.getElem?_eq_none k] at hx; cases hx
      exact .inr ⟨g, 0, cap, e, hlt, fun p x hp => by cases hp⟩
  · obtain ⟨g, cap, hv, _, hlt⟩ := h2.form h0
    refine .inr ⟨g, 0, cap, hv, hlt, fun p x hp j hj => ?_⟩
    have hc := h2.cells (g := g) (by rw [hv]; rfl)
    have he := ecells_at hp j hj
    have hs : ∃ u, (ecell x)[j]? = some u := ⟨_, List.getElem?_eq_getElem (by rw [ecell_len]; exact hj)⟩
    obtain ⟨u, hu⟩ := hs
    rw [hu] at he ⊢
    have := hc (p * 12 + j) u he
    have e2 : (⟨g, 0, none⟩ : Addr).add (p * 12 + j) = ⟨g, 0 + p * 12 + j, none⟩ := by unfold Addr.add; split <;> simp_all
    rw [e2] at this
    exact this
/-- what a group's log gave times, and its finals -/
def ToIs (w : World) (v : Value) (T : List (Int × Mg)) (F : List Cm) : Prop :=
  ∃ (A : Option Addr) (n c : Nat) (b : Nat) (B : Option Addr) (m d : Nat), v = .agg #[.slice A n c, .map (some b), .slice B m d] ∧ KR KW w A n c (T.map toWt) ∧ MpIs w (.map (some b)) (T.map fun p => p.2.id) ∧ CmR w (.slice B m d) F
theorem ToIs.below {w w' : World} {v : Value} {T : List (Int × Mg)} {F : List Cm} (h : ToIs w v T F) (hb : Below w.heap.size w w') : ToIs w' v T F := by
  obtain ⟨A, n, c, b, B, m, d, e, h1, h2, h3⟩ := h
  exact ⟨A, n, c, b, B, m, d, e, h1.below hb, h2.below hb, h3.below hb⟩
/-- the same, in rows of one's own: what the messages' groups are was there in world W0 -/
def ToX (W0 w : World) (v : Value) (T : List (Int × Mg)) (F : List Cm) : Prop :=
  ∃ (A : Option Addr) (n c : Nat) (b : Nat) (B : Option Addr) (m d : Nat) (q : Nat), v = .agg #[.slice A n c, .map (some b), .slice B m d] ∧ KX KW W0 w q 78 (.slice A n c) (T.map toWt) ∧ MpIs w (.map (some b)) (T.map fun p => p.2.id) ∧ CX W0 w q (.slice B m d) F
theorem ToX.below {W0 w w' : World} {v : Value} {T : List (Int × Mg)} {F : List Cm} (h : ToX W0 w v T F) (hb : Below w.heap.size w w') : ToX W0 w' v T F := by
  obtain ⟨A, n, c, b, B, m, d, q, e, h1, h2, h3⟩ := h
  exact ⟨A, n, c, b, B, m, d, q, e, h1.below hb, h2.below hb, h3.below hb⟩
theorem ToX.is {W0 w : World} {v : Value} {T : List (Int × Mg)} {F : List Cm} (h : ToX W0 w v T F) (hb : Below W0.heap.size W0 w) : ToIs w v T F := by
  obtain ⟨A, n, c, b, B, m, d, q, e, h1, h2, h3⟩ := h
  exact ⟨A, n, c, b, B, m, d, e, h1.r hb, h2, h3.r hb⟩
theorem mp_set {w : World} {b : Nat} {l : List Int} {p i : Nat} {t : TypeId} {cs : Array Value} (h : MpIs w (.map (some b)) l) (hp : Box w p t cs) (u : Value) : MpIs (w.setCell ⟨p, i, none⟩ u) (.map (some b)) l := by
  obtain ⟨b', e, h1⟩ := h
  injection e with e
  injection e with e
  subst e
  refine ⟨b, rfl, h1.setCell (a := ⟨p, i, none⟩) (fun e => ?_) u⟩
  obtain ⟨es, clock, h2, _⟩ := h1
  simp only at e
  rw [e, show w.heap[p]? = _ from hp] at h2
  cases h2
set_option maxHeartbeats 600000 in
theorem ptell_any (v : Value) (g : Int) (cs : List Cm) (W0 w : World) (h : PlrIs W0 v g cs) (hbw : Below W0.heap.size W0 w) (hg : 0 ≤ g ∧ g < 4) (hcs : ∀ c ∈ cs, CM.may c) (hlen : cs.length ≤ 200) :
    Calls Tryz.prog 31 #[v] w fun e w' => ∃ vt, e = .returned vt ∧ ToX W0 w' vt (OM.play g cs).2.2 (OM.fins g cs) ∧ Below w.heap.size w w' := by
  have HBW := Lib.hid hbw
  have HBS := Lib.hid hbw.size
  obtain ⟨pc, pg, sv, b0, rfl, v1, v2, v3⟩ := h
  obtain ⟨q0, hq0⟩ : ∃ q0, w.heap.size = q0 := ⟨_, rfl⟩
  obtain ⟨W1, hW1⟩ : ∃ W1, W1 = (w.alloc (.cells #[.slice none 0 0, .map none, .slice none 0 0] 75)).alloc (.cells #[.slice none 0 0, .map none, .slice none 0 0] 75) := ⟨_, rfl⟩
  have HB := Lib.hid (show Below w.heap.size w W1 by rw [hW1]; exact ((Below.refl _ _).alloc (Nat.le_refl _) _).alloc (by simp) _)
  have X := Lib.hid (show Box W1 q0 75 #[.slice none 0 0, .map none, .slice none 0 0] by rw [hW1]; exact (Box.new_at _ hq0).alloc _)
  have P := Lib.hid (show Box W1 (q0 + 1) 75 #[.slice none 0 0, .map none, .slice none 0 0] by rw [hW1]; exact Box.new_at _ (by rw [← hq0]; simp))
  have HQ := Lib.hid hq0
  have hid := fun p (hp : p ∈ (OM.play g cs).2.2) => show i64In p.2.id from by
    have := ((OM.inv hg hcs).tm p hp).2.2.2.1.1
    unfold CM.idOk at this
    unfold i64In
    omega
  have HID := Lib.hid hid
  have hfew := (told_few g cs).1
  have HCA := Lib.hid (pplay_any papply15 58 #[.pointer (some ⟨q0 + 1, 0, none⟩)] g cs W0 W1 (RTe g cs W0 w.heap.size (q0 + 1)) (fun q => q = q0 + 1 ∨ (Value.slice none 0 0).ownBlock = some q ∨ (Value.slice none 0 0).ownBlock = some q) pc pg b0 sv v1 v2 v3 (bmore hbw HB.out (Nat.le_refl _))
    (seeTe g cs W0 W1 w.heap.size (q0 + 1) hg hcs hlen P.out.lt HB.out.size) ⟨⟨none, 0, 0, none, 0, 0, P.out, kX_nil KW _ _ _ _, cX_nil _ _ _, rfl⟩, Nat.zero_le _⟩ (fun q hq => by have := hbw.size; rcases hq with rfl | hq | hq; omega; cases hq; cases hq) hg hcs)
  clear hid v1 v2 v3 hbw
  go_enter Tryz.func31, Tryz.ntmps31
  go_upto_region 2 with (fail)
  rw [← hW1]
  clear hW1
  try simp only [hq0]
  clear hq0
  go_wp2_with fail
  refine (HCA.out).mono ?_
  rintro e w2 ⟨rfl, X', hR, hK, hX⟩
  clear HCA
  have HB2 := Lib.hid (show Below w.heap.size w w2 from HB.out.trans (hK.below HB.out.size (fun q hq => by have := HQ.out; rcases hq with rfl | hq | hq; omega; cases hq; cases hq)))
  have X2 := Lib.hid (hK.box X.out (fun q => by rcases q with k | k | k; omega; cases k; cases k))
  obtain ⟨⟨C, i, j, D, u, v, r1, r2, r3, rfl⟩, _⟩ := hR
  rw [List.take_length] at r2 r3
  have P2 := Lib.hid r1
  have K2 := Lib.hid r2
  have K3 := Lib.hid r3
  have hi : i ≤ 4096 := by have := r2.len; rw [List.length_map] at this; omega
  have HPL := Lib.hid (pplW_any C i j _ w2 (r2.r (bmore HBW.out HB2.out (Nat.le_refl _))) hi (fun x hx => by obtain ⟨p, hp, rfl⟩ := List.mem_map.1 hx; exact HID.out p hp))
  clear r1 r2 r3 hK hX
  obtain ⟨x0, x1, x2⟩ := box_sk P2.out
  go_upto_region 4 with (go_at_call 60; refine (HPL.out).mono ?_; rintro e w3 ⟨vm, rfl, hm0, hb3⟩; have HM := Lib.hid hm0; obtain ⟨bm, rfl, hm⟩ := hm0; have HB3 := Lib.hid hb3; have P3 := Lib.hid (P2.out.below hb3 P2.out.lt); clear hm hb3 x0 x1 x2; obtain ⟨x0, x1, x2, f0, f1, f2⟩ := P3.out.three)
  clear x0 x1 x2 f0 f1 f2 HPL
  have q3 := Kept.set (S := fun e => e = 75) (i := 1) P3.out rfl (.map (some bm))
  have P4 := Lib.hid (show Box (w3.setCell ⟨q0 + 1, 1, none⟩ (.map (some bm))) (q0 + 1) 75 #[.slice C i j, .map (some bm), .slice D u v] from by
    have := P3.out.stored 1 (.map (some bm))
    simpa using this)
  have X4 := Lib.hid ((X2.out.below HB3.out X2.out.lt).far (p := ⟨q0 + 1, 1, none⟩) (by simp) (.map (some bm)))
  have M4 := Lib.hid (mp_set (i := 1) HM.out P3.out (.map (some bm)))
  have K24 := Lib.hid ((K2.out.below HB3.out).kept q3 (by decide))
  have K34 := Lib.hid ((K3.out.below HB3.out).kept q3 (by decide))
  have HB4 := Lib.hid (show Below w.heap.size w (w3.setCell ⟨q0 + 1, 1, none⟩ (.map (some bm))) from (bmore HB2.out HB3.out (Nat.le_refl _)).setCell (p := ⟨q0 + 1, 1, none⟩) (by have := HQ.out; simp; omega) _)
  clear q3
  generalize w3.setCell ⟨q0 + 1, 1, none⟩ (.map (some bm)) = w4 at P4 X4 M4 K24 K34 HB4 ⊢
  obtain ⟨x0, x1, x2⟩ := box_sk P4.out
  obtain ⟨y0, y1, y2, f0, f1, f2⟩ := X4.out.three
  have q5 := kept_put3 X4.out (.slice C i j) (.map (some bm)) (.slice D u v)
  have X5 := Lib.hid (X4.out.put3 (.slice C i j) (.map (some bm)) (.slice D u v))
  have M5 := Lib.hid (mp_set (i := 2) (mp_set (i := 1) (mp_set (i := 0) M4.out X4.out (.slice C i j)) (X4.out.stored 0 (.slice C i j)) (.map (some bm))) ((X4.out.stored 0 (.slice C i j)).stored 1 (.map (some bm))) (.slice D u v))
  have K25 := Lib.hid (K24.out.kept q5 (by decide))
  have K35 := Lib.hid (K34.out.kept q5 (by decide))
  have HB5 := Lib.hid (below_put3 HB4.out (by have := HQ.out; omega) (.slice C i j) (.map (some bm)) (.slice D u v) (g := q0))
  clear q5
  go_wp2_with fail
  obtain ⟨u0, u1, u2⟩ := box_sk X5.out
  exact bodyPost_ret (v := .agg #[.slice C i j, .map (some bm), .slice D u v]) (by simp [results, Tryz.results31, go_sem, u0, u1, u2]; try rfl) rfl ⟨_, rfl, ⟨C, i, j, bm, D, u, v, _, rfl, K25.out, by have := M5.out; rw [List.map_map] at this; exact this, K35.out⟩, HB5.out⟩
end Go.Proofs.YteebeiaokfenmaaGreat.KP
