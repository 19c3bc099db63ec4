/- Contracts of functions, L08: each as its theorem says. -/
import Derived.Test.YteebeiaokfenmaaGreatL07
import Derived.Deep.Strs
import Derived.Test.YteebeiaokfenmaaGreatL05
set_option linter.unusedVariables false
set_option linter.unusedSimpArgs false
set_option maxRecDepth 100000
set_option maxHeartbeats 16000000
namespace Go.Proofs.YteebeiaokfenmaaGreat
namespace LP
open Go.RowKit CP
open CM (Cm Mg)
def tcx (l : List ByteArray) : List Value := l.map fun s => Value.string s
theorem tcx_len (l : List ByteArray) : (tcx l).length = l.length := by simp [tcx]
theorem tcx_at (l : List ByteArray) (k : Nat) (h : k < l.length) : (tcx l)[k]? = some (.string l[k]) := by simp [tcx, h]
def TxIs (w : World) (A : Option Addr) (n c : Nat) (l : List ByteArray) : Prop := Rd w A n (tcx l) ∧ n ≤ c ∧ c ≤ maxLen ∧ ∀ s ∈ l, s.size ≤ maxLen
theorem TxIs.below {w w' : World} {A : Option Addr} {n c : Nat} {l : List ByteArray} (h : TxIs w A n c l) (hb : Below w.heap.size w w') : TxIs w' A n c l := ⟨h.1.below hb, h.2⟩
theorem TxIs.len {w : World} {A : Option Addr} {n c : Nat} {l : List ByteArray} (h : TxIs w A n c l) : l.length = n := by have := h.1.1; rwa [tcx_len] at this
structure El where
 A : Option Addr
 c : Nat
 B : Option Addr
 d : Nat
 x : Cm
def ecell (e : El) : List Value := (ccells e.A e.c e.B e.d e.x).toList
theorem ecell_len (e : El) : (ecell e).length = 12 := rfl
theorem ecell_one (e : El) : ∀ u ∈ ecell e, u.oneCell' = true := by
 intro u hu
 simp only [ecell, ccells, List.mem_cons, List.not_mem_nil, or_false] at hu
 rcases hu with rfl | rfl | rfl | rfl | rfl | rfl | rfl | rfl | rfl | rfl | rfl | rfl <;> rfl
def ecells (l : List El) : List Value := flat ecell l
theorem ecells_snoc (l : List El) (e : El) : ecells (l ++ [e]) = ecells l ++ ecell e := by unfold ecells; rw [flat_append, flat_one]
theorem ecells_at {l : List El} {k : Nat} {e : El} (h : l[k]? = some e) (j : Nat) (hj : j < 12) : (ecells l)[k * 12 + j]? = (ecell e)[j]? := flat_get (fun e _ => ecell_len e) h j hj
def Rows (w : World) (b : Nat) (r : Option Nat) (l : List El) : Prop :=
 ∀ e ∈ l, RowIs w e.A e.c e.x.m.gs ∧ RowIs w e.B e.d e.x.ms ∧ (∀ ad, e.A = some ad → 0 < e.x.m.gs.length → b ≤ ad.block ∧ r ≠ some ad.block) ∧ (∀ ad, e.B = some ad → 0 < e.x.ms.length → b ≤ ad.block ∧ r ≠ some ad.block) ∧ Tn b w e.A e.x.m.gs.length ∧ Tn b w e.B e.x.ms.length
theorem Rows.below {w w' : World} {b : Nat} {r : Option Nat} {l : List El} (h : Rows w b r l) (hb : Below w.heap.size w w') : Rows w' b r l := fun e he => by
 obtain ⟨h1, h2, h3, h4, h5, h6⟩ := h e he
 exact ⟨h1.below hb, h2.below hb, h3, h4, h5.below hb, h6.below hb⟩
theorem rowIs_grown {w w' : World} {A : Option Addr} {c : Nat} {L : List Int} {r : Option Nat} (h : RowIs w A c L) (hg : w.grownBy w' r) (hr : ∀ ad, A = some ad → 0 < L.length → r ≠ some ad.block) : RowIs w' A c L :=
 ⟨h.1.grown hg fun ad e hn k => hr ad e hn k.symm, h.2⟩
def CmsO (w : World) (b : Nat) (v : Value) (cs : List Cm) : Prop :=
 ∃ l : List El, l.map (fun e => e.x) = cs ∧ w.ownsRow b 91 12 v l.length (ecells l) ∧ Rows w b v.ownBlock l
theorem CmsO.below {w w' : World} {b : Nat} {v : Value} {cs : List Cm} (h : CmsO w b v cs) (hb : Below w.heap.size w w') : CmsO w' b v cs := by
 obtain ⟨l, h1, h2, h3⟩ := h
 exact ⟨l, h1, own_below3 h2 hb, h3.below hb⟩
theorem CmsO.mono {w : World} {b b' : Nat} {v : Value} {cs : List Cm} (h : CmsO w b v cs) (hb : b' ≤ b) : CmsO w b' v cs := by
 obtain ⟨l, h1, h2, h3⟩ := h
 exact ⟨l, h1, own_base h2 hb, fun e he => ⟨(h3 e he).1, (h3 e he).2.1, fun ad e1 hn => ⟨Nat.le_trans hb ((h3 e he).2.2.1 ad e1 hn).1, ((h3 e he).2.2.1 ad e1 hn).2⟩, fun ad e1 hn => ⟨Nat.le_trans hb ((h3 e he).2.2.2.1 ad e1 hn).1, ((h3 e he).2.2.2.1 ad e1 hn).2⟩, (h3 e he).2.2.2.2.1.mono hb, (h3 e he).2.2.2.2.2.mono hb⟩⟩
theorem cmsO_nil (w : World) (b : Nat) : CmsO w b (.slice none 0 0) [] := ⟨[], rfl, World.ownsRow_nil _ _ _ _, fun e he => by cases he⟩
theorem cmsO_next {w w2 : World} {b : Nat} {v v2 : Value} {cs : List Cm} {x : Cm} (l : List El) (hl : l.map (fun e => e.x) = cs) (hr : Rows w b v.ownBlock l) {A : Option Addr} {c : Nat} {B : Option Addr} {d : Nat} (h1 : RowGe w b A c x.m.gs) (h2 : RowGe w b B d x.ms)
  (n1 : ∀ ad, A = some ad → 0 < x.m.gs.length → v.ownBlock ≠ some ad.block) (n2 : ∀ ad, B = some ad → 0 < x.ms.length → v.ownBlock ≠ some ad.block)
  (hg : w.grownBy w2 v.ownBlock) (ho : w2.ownsRow b 91 12 v2 (l.length + 1) (ecells l ++ ecell ⟨A, c, B, d, x⟩)) (hob : v2.ownBlock = v.ownBlock ∨ v2.ownBlock = some w.heap.size) : CmsO w2 b v2 (cs ++ [x]) := by
 refine ⟨l ++ [⟨A, c, B, d, x⟩], by simp [hl], by rw [ecells_snoc, List.length_append]; exact ho, fun e he => ?_⟩
 have hfin : ∀ ad : Addr, ad.block < w.heap.size → v.ownBlock ≠ some ad.block → v2.ownBlock ≠ some ad.block := fun ad hlt hne => by
  rcases hob with k | k
  ·rw [k]; exact hne
  ·rw [k]; intro q; injection q with q; omega
 have lt : ∀ {A : Option Addr} {c : Nat} {L : List Int} {ad : Addr}, RowIs w A c L → A = some ad → 0 < L.length → ad.block < w.heap.size := fun {A c L ad} hR e hn => by
  obtain ⟨a, e2, hB, _⟩ := hR.1.2 hn
  rw [e] at e2; injection e2 with e2; rw [e2]; exact hB
 rcases List.mem_append.1 he with he | he
 ·obtain ⟨g1, g2, g3, g4, g5, g6⟩ := hr e he
  exact ⟨rowIs_grown g1 hg (fun ad e hn => (g3 ad e hn).2), rowIs_grown g2 hg (fun ad e hn => (g4 ad e hn).2),
   fun ad e hn => ⟨(g3 ad e hn).1, hfin ad (lt g1 e hn) (g3 ad e hn).2⟩, fun ad e hn => ⟨(g4 ad e hn).1, hfin ad (lt g2 e hn) (g4 ad e hn).2⟩, g5.grown hg (fun ad e hn => (g3 ad e hn).2), g6.grown hg (fun ad e hn => (g4 ad e hn).2)⟩
 ·obtain rfl := List.mem_singleton.1 he
  exact ⟨rowIs_grown h1.1 hg n1, rowIs_grown h2.1 hg n2, fun ad e hn => ⟨h1.2 ad e hn, hfin ad (lt h1.1 e hn) (n1 ad e hn)⟩, fun ad e hn => ⟨h2.2 ad e hn, hfin ad (lt h2.1 e hn) (n2 ad e hn)⟩, h1.3.grown hg n1, h2.3.grown hg n2⟩
def Row (n₀ : Nat) (W : World) (sv : Value) (es : List El) : Prop :=
 (sv = .slice none 0 0 ∧ es = []) ∨ ∃ b off cap, sv = .slice (some ⟨b, off, none⟩) es.length cap ∧ b < n₀ ∧ ∀ p e, es[p]? = some e → ∀ j, j < 12 → W.cell? ⟨b, off + p * 12 + j, none⟩ = (ecell e)[j]?
theorem Row.below {n₀ : Nat} {A B : World} {sv : Value} {es : List El} (h : Below n₀ A B) (hr : Row n₀ A sv es) : Row n₀ B sv es := by
 rcases hr with e | ⟨b, off, cap, e, hb, hc⟩
 ·exact .inl e
 ·exact .inr ⟨b, off, cap, e, hb, fun p x hx j hj => (h.cell (p := ⟨b, off + p * 12 + j, none⟩) hb).trans (hc p x hx j hj)⟩
def At12 (W : World) (b o : Nat) (e : El) : Prop :=
 W.cell? ⟨b, o, none⟩ = some (.int .u8 e.x.k) ∧ W.cell? ⟨b, o + 1, none⟩ = some (.int .i64 e.x.m.id) ∧ W.cell? ⟨b, o + 2, none⟩ = some (.slice e.A e.x.m.gs.length e.c) ∧ W.cell? ⟨b, o + 3, none⟩ = some (.int .i64 e.x.m.tp) ∧
 W.cell? ⟨b, o + 4, none⟩ = some (.string e.x.m.key) ∧ W.cell? ⟨b, o + 5, none⟩ = some (.string e.x.m.body) ∧ W.cell? ⟨b, o + 6, none⟩ = some (.int .i64 e.x.id) ∧ W.cell? ⟨b, o + 7, none⟩ = some (.int .i64 e.x.tm) ∧
 W.cell? ⟨b, o + 8, none⟩ = some (.slice e.B e.x.ms.length e.d) ∧ W.cell? ⟨b, o + 9, none⟩ = some (.int .i64 e.x.tp) ∧ W.cell? ⟨b, o + 10, none⟩ = some (.int .i64 e.x.wh) ∧ W.cell? ⟨b, o + 11, none⟩ = some (.int .i64 e.x.n)
theorem at12_of {W : World} {b o : Nat} {e : El} (h : ∀ j, j < 12 → W.cell? ⟨b, o + j, none⟩ = (ecell e)[j]?) : At12 W b o e :=
 ⟨h 0 (by omega), h 1 (by omega), h 2 (by omega), h 3 (by omega), h 4 (by omega), h 5 (by omega), h 6 (by omega), h 7 (by omega), h 8 (by omega), h 9 (by omega), h 10 (by omega), h 11 (by omega)⟩
theorem Row.any {n₀ : Nat} {W : World} {sv : Value} {es : List El} (h : Row n₀ W sv es) : ∃ AA cap, sv = .slice AA es.length cap ∧ ∀ p e, es[p]? = some e → ∃ b off, AA = some ⟨b, off, none⟩ ∧ b < n₀ ∧ At12 W b (off + p * 12) e := by
 rcases h with ⟨rfl, rfl⟩ | ⟨b, off, cap, rfl, hb, hc⟩
 ·exact ⟨none, 0, rfl, fun p e hp => by cases hp⟩
 ·exact ⟨_, cap, rfl, fun p e hp => ⟨b, off, rfl, hb, at12_of (hc p e hp)⟩⟩
theorem At12.below {W W' : World} {b o n₀ : Nat} {e : El} (h : At12 W b o e) (hb : b < n₀) (hB : Below n₀ W W') : At12 W' b o e := by
 obtain ⟨h0, h1, h2, h3, h4, h5, h6, h7, h8, h9, h10, h11⟩ := h
 exact ⟨(hB.cell (p := ⟨b, o, none⟩) hb).trans h0, (hB.cell (p := ⟨b, o + 1, none⟩) hb).trans h1, (hB.cell (p := ⟨b, o + 2, none⟩) hb).trans h2, (hB.cell (p := ⟨b, o + 3, none⟩) hb).trans h3, (hB.cell (p := ⟨b, o + 4, none⟩) hb).trans h4, (hB.cell (p := ⟨b, o + 5, none⟩) hb).trans h5,
  (hB.cell (p := ⟨b, o + 6, none⟩) hb).trans h6, (hB.cell (p := ⟨b, o + 7, none⟩) hb).trans h7, (hB.cell (p := ⟨b, o + 8, none⟩) hb).trans h8, (hB.cell (p := ⟨b, o + 9, none⟩) hb).trans h9, (hB.cell (p := ⟨b, o + 10, none⟩) hb).trans h10, (hB.cell (p := ⟨b, o + 11, none⟩) hb).trans h11⟩
theorem cmsO_row {w : World} {b : Nat} {v : Value} {cs : List Cm} (h : CmsO w b v cs) : ∃ es : List El, es.map (fun e => e.x) = cs ∧ Row w.heap.size w v es ∧ Rows w b v.ownBlock es := by
 obtain ⟨es, h1, h2, h3⟩ := h
 refine ⟨es, h1, ?_, h3⟩
 rcases Nat.eq_zero_or_pos es.length with h0 | h0
 ·obtain rfl := List.length_eq_zero_iff.1 h0
  rcases h2.2 with ⟨e, _⟩ | ⟨g, cap, cur, e, hb, hx, h5⟩
  ·exact .inl ⟨e, rfl⟩
  ·have hlt : g < w.heap.size := by
    rcases Nat.lt_or_ge g w.heap.size with k | k
    ·exact k
    ·rw [Array.getElem?_eq_none k] at hx; cases hx
   exact .inr ⟨g, 0, cap, e, hlt, fun p x hp => by cases hp⟩
 ·obtain ⟨g, cap, hv, _, hlt⟩ := h2.form h0
  refine .inr ⟨g, 0, cap, hv, hlt, fun p x hp j hj => ?_⟩
  have hc := h2.cells (g := g) (by rw [hv]; rfl)
  have he := ecells_at hp j hj
  have hs : ∃ u, (ecell x)[j]? = some u := ⟨_, List.getElem?_eq_getElem (by rw [ecell_len]; exact hj)⟩
  obtain ⟨u, hu⟩ := hs
  rw [hu] at he ⊢
  have := hc (p * 12 + j) u he
  have e2 : (⟨g, 0, none⟩ : Addr).add (p * 12 + j) = ⟨g, 0 + p * 12 + j, none⟩ := by unfold Addr.add; split <;> simp_all
  rw [e2] at this
  exact this
end LP
namespace CP
open Go.RowKit
open CM (Mg Cm)
def RdGe (x : Cm) (y : Int) (w : World) (e : Ending) (w' : World) : Prop := ∃ v, e = .returned (.tuple #[v, .int .i64 y]) ∧ CmGe w' w.heap.size v x ∧ Below w.heap.size w w'
end CP
namespace TP
open Go.RowKit
open TM (Sp)
theorem pless_any (a b : Sp) (w : World) : Calls Tryz.prog 54 #[vsp a, vsp b] w (IsB (TM.less a b) w) := by
 have HR := h! (TM.less_cmp a b)
 generalize TM.less a b = r at HR ⊢
 obtain ⟨z, hz⟩ : ∃ z, z = TM.cmpI a.t b.t := ⟨_, rfl⟩
 obtain ⟨y, hy⟩ : ∃ y, y = TM.cmpI a.i b.i := ⟨_, rfl⟩
 have C1 := h! (fun w => compare_any a.t b.t w)
 have C2 := h! (fun w => compare_any a.i b.i w)
 rw [← hz] at C1 HR
 rw [← hy] at C2 HR
 obtain ⟨x, hx⟩ : ∃ x, x = TM.orI z y := ⟨_, rfl⟩
 rw [← hx] at HR
 have HX := h! hx
 clear hz hy hx
 unfold vsp
 obtain ⟨at_, ai⟩ := a
 obtain ⟨bt, bi⟩ := b
 simp only at C1 C2 ⊢
 have HB := h! (show Below w.heap.size w ((w.alloc (.cells #[.int .i64 at_, .int .i64 ai] 46)).alloc (.cells #[.int .i64 bt, .int .i64 bi] 46)) from
  ((Below.refl _ _).alloc n! _).alloc (by simp) _)
 have X := h! ((Box.new w 46 #[.int .i64 at_, .int .i64 ai]).alloc (.cells #[.int .i64 bt, .int .i64 bi] 46))
 have Y := h! (Box.new_at (w := w.alloc (.cells #[.int .i64 at_, .int .i64 ai] 46)) (t := 46) (cs := #[.int .i64 bt, .int .i64 bi]) (w.heap.size + 1) (by simp))
 go_enter Tryz.func54, Tryz.ntmps54
 go_upto_region 1 with (fail)
 generalize (w.alloc (.cells #[.int .i64 at_, .int .i64 ai] 46)).alloc (.cells #[.int .i64 bt, .int .i64 bi] 46) = w1 at HB X Y ⊢
 generalize hg : w.heap.size = g at X Y ⊢
 have HG := h! hg
 clear hg
 have HSS := h! (fun (w' : World) (h : Below w1.heap.size w1 w') => show w'.cell? ⟨g, 0, none⟩ = some (.int .i64 at_) ∧ w'.cell? ⟨g, 1, none⟩ = some (.int .i64 ai) ∧ w'.cell? ⟨g + 1, 0, none⟩ = some (.int .i64 bt) ∧ w'.cell? ⟨g + 1, 1, none⟩ = some (.int .i64 bi) from
  ⟨(X.out.below h X.out.lt).cell 0, (X.out.below h X.out.lt).cell 1, (Y.out.below h Y.out.lt).cell 0, (Y.out.below h Y.out.lt).cell 1⟩)
 obtain ⟨_, _, _, _⟩ := HSS.out w1 (Below.refl _ _)
 have bb1 : Below w1.heap.size w1 w1.drew := (Below.refl _ _).drew
 go_region_held3 (fun w' => w'.cell? ⟨g, 0, none⟩ = some (.int .i64 at_) ∧ w'.cell? ⟨g, 1, none⟩ = some (.int .i64 ai) ∧ w'.cell? ⟨g + 1, 0, none⟩ = some (.int .i64 bt) ∧ w'.cell? ⟨g + 1, 1, none⟩ = some (.int .i64 bi))
  (first | exact HSS.out _ bb1 | exact HSS.out _ (bb1.alloc bb1.size _) | go_keep)
  (first
   | (go_at_call 82; (first | (with_reducible refine (C1.out _).mono ?_) | (with_reducible refine (C2.out _).mono ?_)); rintro e w' ⟨rfl, rfl⟩)
   | (go_at_call 81; refine (or_any w1.heap.size z y x _ (Box.new w1.drew _ _) HX.out).mono ?_; rintro e w' ⟨rfl, rfl⟩))
 all_goals
  go_wp2_with fail
  go_ret
  exact ⟨by first | rfl | (rw [← HR.out]; rfl), HB.out.trans ((bb1.alloc bb1.size _).mono HB.out.size)⟩
theorem pmay_any (s n : Int) (w : World) : Calls Tryz.prog 169 #[.int .i64 s, .int .i64 n] w fun e w' => e = .returned (.bool (decide (TM.may s n))) ∧ w = w' := by
 rcases (show s < 0 ∨ (0 ≤ s ∧ 6 ≤ s) ∨ (0 ≤ s ∧ s < 6 ∧ n < 0) ∨ (0 ≤ s ∧ s < 6 ∧ 0 ≤ n ∧ 1048576 ≤ n) ∨ (0 ≤ s ∧ s < 6 ∧ 0 ≤ n ∧ n < 1048576) by omega) with h | ⟨h0, h⟩ | ⟨h0, h1, h⟩ | ⟨h0, h1, h2, h⟩ | ⟨h0, h1, h2, h⟩
 rotate_right
 ·rw [decide_eq_true (show TM.may s n from ⟨h0, h1, h2, h⟩)]
  go_enter Tryz.func169, Tryz.ntmps169
  go_wp2_with fail
  go_ret
  exact ⟨rfl, rfl⟩
 all_goals
  rw [decide_eq_false (show ¬ TM.may s n from by unfold TM.may; omega)]
  go_enter Tryz.func169, Tryz.ntmps169
  go_wp2_with fail
  go_ret
  exact ⟨by first | rfl | (simp; try omega), rfl⟩
theorem ppart_nat (b : Int) (w : World) (h : 0 ≤ b) (h2 : b ≤ 9223372036854775807) : Calls Tryz.prog 168 #[.int .i64 b] w fun e w' => e = .returned (.tuple #[.int .i64 (b / 1048576), .int .i64 (b % 1048576)]) ∧ w = w' := by
 go_enter Tryz.func168, Tryz.ntmps168
 go_wp2
 go_ret2
 exact ⟨rfl, rfl⟩
def PartNo (w : World) (e : Ending) (w' : World) : Prop := ∃ x y : Int, ¬ TM.may x y ∧ e = .returned (.tuple #[.int .i64 x, .int .i64 y]) ∧ w = w'
theorem ppart_neg (b : Int) (w : World) (h : b < 0) (h2 : -9223372036854775808 ≤ b) : Calls Tryz.prog 168 #[.int .i64 b] w (PartNo w) := by
 have ht : ¬ TM.may (b.tdiv 1048576) (b.tmod 1048576) := by
  have e : b = -(-b) := by omega
  rw [e, Int.neg_tdiv, Int.neg_tmod, Int.tdiv_eq_ediv_of_nonneg (by omega), Int.tmod_eq_emod_of_nonneg (by omega)]
  unfold TM.may
  omega
 go_enter Tryz.func168, Tryz.ntmps168
 go_wp2
 go_ret2
 exact ⟨_, _, ht, rfl, rfl⟩
theorem pof_any {b r n y : Int} (h : TM.OfIs b r n y) (h1 : -9223372036854775808 ≤ b) (h2 : b ≤ 9223372036854775807) (w : World) : Calls Tryz.prog 162 #[.int .i64 b] w fun e w' => e = .returned (.tuple #[.int .i64 r, .int .i64 n, .int .i64 y]) ∧ w = w' := by
 rcases h with ⟨h, rfl, rfl, rfl⟩ | ⟨h, rfl, rfl, rfl⟩
 ·have hb : 0 ≤ b := h.1
  have hok := (TM.good_iff b hb).1 h
  clear h
  obtain ⟨q, hq⟩ : ∃ q, q = b / 1048576 := ⟨_, rfl⟩
  obtain ⟨p, hp⟩ : ∃ p, p = b % 1048576 := ⟨_, rfl⟩
  have HP := h! (ppart_nat b w hb h2)
  rw [← hq, ← hp] at HP hok ⊢
  clear hq hp
  have HM := h! (pmay_any q p w)
  rw [decide_eq_true hok] at HM
  clear hok
  go_enter Tryz.func162, Tryz.ntmps162
  go_wp2_with fail
  refine (HP.out).mono ?_
  rintro e w1 ⟨rfl, rfl⟩
  go_wp2_with fail
  refine (HM.out).mono ?_
  rintro e w1 ⟨rfl, rfl⟩
  go_wp2
  go_ret3
  exact ⟨rfl, rfl⟩
 ·have HP : Hid (Calls Tryz.prog 168 #[.int .i64 b] w (PartNo w)) := h! (by
   rcases (show 0 ≤ b ∨ b < 0 by omega) with hb | hb
   ·exact (ppart_nat b w hb h2).mono fun e w' k => ⟨_, _, fun g => h ((TM.good_iff b hb).2 g), k.1, k.2⟩
   ·exact ppart_neg b w hb h1)
  clear h
  go_enter Tryz.func162, Tryz.ntmps162
  go_wp2_with fail
  refine (HP.out).mono ?_
  rintro e w1 ⟨x, y, hx, rfl, rfl⟩
  have HM := h! (pmay_any x y w)
  rw [decide_eq_false hx] at HM
  clear hx
  go_wp2_with fail
  refine (HM.out).mono ?_
  rintro e w1 ⟨rfl, rfl⟩
  go_wp2
  go_ret3
  exact ⟨rfl, rfl⟩
end TP
namespace OP
open Go.RowKit SP TP
def FewL (ls : List (List ByteArray)) : Prop := ls.length ≤ 6 ∧ ∀ l ∈ ls, l.length ≤ 300
def GrL (ls : List (List ByteArray)) (w : World) (e : Ending) (w' : World) : Prop := ∃ b : Bool, e = .returned (.bool b) ∧ (b = false → FewL ls) ∧ Below w.heap.size w w'
theorem great16_any (A : Option Addr) (n c : Nat) (ls : List (List ByteArray)) (w : World) (h : LogsIs w A n c ls) (hs : ∀ l ∈ ls, ∀ t ∈ l, t.size ≤ maxLen) :
  Calls Tryz.prog 18 #[.slice A n c] w (GrL ls w) := by
 have hn63 : n ≤ 9223372036854775807 := by
  obtain ⟨_, _, _, _, h1, h2⟩ := h
  unfold maxLen at h2
  omega
 have hln : ls.length = n := by obtain ⟨_, _, _, h1, _⟩ := h; exact h1
 have HLN := h! hln
 have H := h! h
 have HS := h! hs
 clear h hs hln
 go_enter Tryz.func18, Tryz.ntmps18
 go_wp2_with fail
 go_loopw [3, 4] (fun s i wr => ∃ k y : Nat, k ≤ n ∧ k ≤ 10 ∧ y ≤ 10100000 * k ∧ s = .int .i64 y ∧ i = .int .i64 k ∧ Below w.heap.size w wr ∧ Hid (∀ l ∈ ls.take k, 100 * min l.length 1000 ≤ y)) (fun _ i _ => 10 - (intOf i).toNat)
 case atStart => exact ⟨0, 0, by omega, by omega, by omega, rfl, rfl, Below.refl _ _, h! (by simp)⟩
 case round =>
  obtain ⟨k, y, hk, hk10, hy, rfl, rfl, hB, HK⟩ := hrel
  have HB := h! hB
  clear hB
  by_cases hlt : k < n ∧ k < 10
  ·obtain ⟨h1, h2⟩ := hlt
   obtain ⟨l, hl⟩ : ∃ l, ls[k]? = some l := ⟨_, List.getElem?_eq_getElem (by have := HLN.out; omega)⟩
   have HLL := h! hl
   obtain ⟨ad, C, e, rfl, _, q1, _⟩ := logs_get (H.out.below HB.out) hl
   have HSL := h! (HS.out l (List.mem_of_getElem? hl))
   have HQ := h! (fun W (hb : Below w.heap.size w W) => logs_get (H.out.below hb) hl)
   have hl63 : l.length ≤ 9223372036854775807 := by
    obtain ⟨_, _, _, _, _, _, _, i1, i2⟩ := HQ.out _ HB.out
    unfold maxLen at i2
    omega
   have hk0 : (0 : Int) ≤ (k : Int) := by omega
   have hkn : (k : Int) < (n : Int) := by omega
   have hk1 : (k : Int) < 10 := by omega
   obtain ⟨nl, hnl⟩ : ∃ nl, nl = l.length := ⟨_, rfl⟩
   have HNL := h! hnl
   rw [← hnl] at q1 hl63
   clear hl hnl
   go_wp2_with fail
   clear q1
   go_loopw [3, 5] (fun s i wr => ∃ j z : Nat, j ≤ nl ∧ j ≤ 1000 ∧ y + 100 * j ≤ z ∧ z ≤ y + 10100 * j ∧ s = .int .i64 z ∧ i = .int .i64 j ∧ Below w.heap.size w wr) (fun _ i _ => 1000 - (intOf i).toNat)
   case atStart => exact ⟨0, y, by omega, by omega, by omega, by omega, rfl, rfl, HB.out⟩
   case round =>
    clear HB
    obtain ⟨j, z, hj, hj3, hz1, hz2, rfl, rfl, hB⟩ := hrel
    obtain ⟨ad2, C2, e2, hae, _, q1, q2, q3, q4⟩ := HQ.out _ hB
    injection hae with hae
    subst hae
    rw [← HNL.out] at q1 q2
    have HB := h! hB
    clear hB
    by_cases hlt2 : j < nl ∧ j < 1000
    ·obtain ⟨h3, h4⟩ := hlt2
     obtain ⟨t, ht⟩ : ∃ t, l[j]? = some t := ⟨_, List.getElem?_eq_getElem (by have := HNL.out; omega)⟩
     have hts := HSL.out t (List.mem_of_getElem? ht)
     unfold maxLen at hts
     obtain ⟨ad3, u, rfl, _, hu, hcell⟩ := q2.at_ (k := j) h3
     rw [tc_get ht] at hu
     injection hu with hu
     subst hu
     have hj0 : (0 : Int) ≤ (j : Int) := by omega
     have hjn : (j : Int) < (nl : Int) := by omega
     have hj1 : (j : Int) < 1000 := by omega
     clear ht q2
     go_wp2_with fail
     go_roundw
     case rel => exact ⟨j + 1, z + min t.size 10000 + 100, by omega, by omega, by omega, by omega, by congr 1; omega, by go_num, HB.out⟩
     case measure => simp [intOf]; omega
    ·have NX := h! (show ∀ l ∈ ls.take (k + 1), 100 * min l.length 1000 ≤ z from fun l2 hl2 => by
      rw [List.take_add_one, HLL.out] at hl2
      rcases List.mem_append.1 hl2 with q | q
      ·have := HK.out l2 q
       omega
      ·simp at q
       subst q
       have := HNL.out
       omega)
     clear q2
     rcases (show ¬ j < nl ∨ (j < nl ∧ ¬ j < 1000) by omega) with p1 | ⟨p1, p2⟩
     all_goals
      clear hlt2
      go_wp2_with fail
      go_roundw
      case rel => exact ⟨k + 1, z, by omega, by omega, by omega, rfl, by go_num, HB.out, NX⟩
      case measure => simp [intOf]; omega
  ·have HN := h! (show n ≤ 6 → y ≤ 30000 → FewL ls from fun e1 e2 => by
    have e3 : k = n := by omega
    have e4 := HK.out
    rw [e3, List.take_of_length_le (by have := HLN.out; omega)] at e4
    exact ⟨by have := HLN.out; omega, fun l hl => by have := e4 l hl; omega⟩)
   have hq : ¬ (k : Int) < (n : Int) ∨ ((k : Int) < (n : Int) ∧ ¬ (k : Int) < 10) := by omega
   clear hlt HK
   by_cases p1 : 6 < n
   ·rcases hq with q1 | ⟨q1, q2⟩
    all_goals
     go_wp2_with fail
     go_ret
     exact ⟨true, by first | rfl | simp, fun h => (by cases h), HB.out⟩
   ·have q1 : ¬ (k : Int) < (n : Int) := by omega
    clear hq
    have t1 : decide ((6 : Int) < (n : Int)) = false := by rw [decide_eq_false_iff_not]; omega
    by_cases p2 : 30000 < y
    ·have t2 : decide ((30000 : Int) < (y : Int)) = true := by rw [decide_eq_true_iff]; omega
     go_wp2_with fail
     go_ret
     exact ⟨true, by first | rfl | (rw [t2]) | (simp; omega), fun h => (by cases h), HB.out⟩
    ·have t2 : decide ((30000 : Int) < (y : Int)) = false := by rw [decide_eq_false_iff_not]; omega
     go_wp2_with fail
     go_ret
     exact ⟨false, by first | rfl | (rw [t2]) | (simp; omega), fun _ => HN.out (by omega) (by omega), HB.out⟩
end OP
namespace SP
open Go.RowKit Go.Joins Go.ChangeShapes Go.WideShapes Go.Deep
section
variable {H : Type} {enc : TypeId × Value → H} {w : World} {spare : Nat → Bool} {held : Bool} {base : Nat}
theorem text_cells {fuel : Nat} {cs : List Value} {x : DataW H × List MemPlace} (h : DataW.trod enc Tryz.prog w base spare held fuel 26 cs = some x) :
  ∃ B c, ∃ l : List ByteArray, cs = [.slice B l.length c] ∧ Rd w B l.length (tc l) ∧ l.length ≤ c ∧ c ≤ maxLen ∧ ∀ s ∈ l, s.size ≤ maxLen := by
 rcases open_strings Tryz.underlying26 Tryz.underlying9 (by kernel_rfl) h with ⟨hcs, _⟩ | ⟨a, len, cap, ss, hcs, _, hl, hm, hz, _, hcell, hws⟩
 ·exact ⟨none, 0, [], hcs, Rd.nil, Nat.zero_le _, Nat.zero_le _, fun s hs => by cases hs⟩
 ·have hlz : len ≤ ss.length := by rw [hz]; split <;> omega
  have hlt : (ss.take len).length = len := by rw [List.length_take]; omega
  refine ⟨some a, cap, ss.take len, by rw [hlt]; exact hcs, ⟨by rw [tc_length], fun hn => ⟨a, rfl, ?_, fun j u hu => ?_⟩⟩, by rw [hlt]; exact hl, hm, fun s hs => hws s (List.mem_of_mem_take hs)⟩
  ·rw [hlt] at hn
   have := cell_block (hcell 0 (by omega))
   rwa [block_of_add] at this
  ·unfold tc at hu
   rw [List.getElem?_map, List.getElem?_take] at hu
   split at hu
   ·rename_i hj
    have hjz : j < ss.length := by omega
    rw [hcell j hjz]
    rw [List.getElem?_eq_getElem hjz] at hu
    simp only [Option.map_some, Option.some.injEq] at hu
    rw [← hu]
    simp [hjz]
   ·simp at hu
theorem logs_cells {fuel : Nat} {cs : List Value} {x : DataW H × List MemPlace} (h : DataW.trod enc Tryz.prog w base spare held fuel 27 cs = some x) :
  ∃ A c, ∃ ls : List (List ByteArray), cs = [.slice A ls.length c] ∧ LogsIs w A ls.length c ls ∧ ∀ l ∈ ls, ∀ v ∈ l, v.size ≤ maxLen := by
 rcases open_slice1 Tryz.underlying27 (by kernel_rfl) h with ⟨hcs, _⟩ | ⟨a, len, cap, m, k, V, D, Pl, hcs, _, hl, hm, hmm, _, hi⟩
 ·exact ⟨none, 0, [], hcs, ⟨[], Rd.nil, ⟨rfl, fun i l hl => by simp at hl⟩, rfl, Nat.le_refl _, Nat.zero_le _⟩, fun l hl => by cases hl⟩
 ·have hlm : len ≤ m := by rw [hmm]; split <;> omega
  obtain ⟨f, hf⟩ := choose_lt (α := List ByteArray) (n := len) (p := fun i q => ∃ B c, V i = .slice B q.length c ∧ Rd w B q.length (tc q) ∧ q.length ≤ c ∧ c ≤ maxLen ∧ ∀ s ∈ q, s.size ≤ maxLen) (fun i hi' => by
   obtain ⟨_, g2⟩ := hi i (by omega)
   obtain ⟨B, c, l, e, h1, h2, h3, h4⟩ := text_cells g2
   exact ⟨l, B, c, by simpa using e, h1, h2, h3, h4⟩)
  refine ⟨some a, cap, (List.range len).map f, by simpa using hcs, ⟨(List.range len).map V, ⟨by simp, fun hn => ⟨a, rfl, ?_, fun j u hu => ?_⟩⟩, ⟨by simp, fun i l hl' => ?_⟩, rfl, by simpa using hl, hm⟩, fun l hl' => ?_⟩
  ·simp at hn
   have := cell_block (hi 0 (by omega)).1
   rwa [block_of_add] at this
  ·have hjl : j < len := by have := (List.getElem?_eq_some_iff.1 hu).1; simpa using this
   simp [hjl] at hu
   subst hu
   exact (hi j (by omega)).1
  ·have hjl : i < len := by have := (List.getElem?_eq_some_iff.1 hl').1; simpa using this
   simp [hjl] at hl'
   subst hl'
   obtain ⟨B, c, e, h1, h2, h3, _⟩ := hf i hjl
   exact ⟨B, c, by simp [hjl, e], h1, h2, h3⟩
  ·obtain ⟨i, hil, rfl⟩ := List.mem_map.1 hl'
   obtain ⟨_, _, _, _, _, _, h4⟩ := hf i (List.mem_range.1 hil)
   exact h4
def LogsArg (w : World) (A : Option Addr) (len cap : Nat) (ls : List (List ByteArray)) : Prop := LogsIs w A len cap ls ∧ ∀ l ∈ ls, ∀ v ∈ l, v.size ≤ maxLen
theorem open_logs {fuel : Nat} {A : Option Addr} {len cap : Nat} {x : DataW H × List MemPlace} (h : DataW.trod enc Tryz.prog w base spare held fuel 27 [.slice A len cap] = some x) : ∃ ls, LogsArg w A len cap ls := by
 obtain ⟨A', c, ls, e, h1, h2⟩ := logs_cells h
 simp only [List.cons.injEq, Value.slice.injEq, and_true] at e
 obtain ⟨rfl, rfl, rfl⟩ := e
 exact ⟨ls, h1, h2⟩
end
end SP
namespace KP
open Go.RowKit CP TP
open CM (Mg Cm)
open TM (Sp)
open KM (Wt Sk)
theorem box_two {w : World} {g : Nat} {t : TypeId} {a b : Value} (h : Box w g t #[a, b]) : w.cell? ⟨g, 0, none⟩ = some a ∧ w.cell? ⟨g, 1, none⟩ = some b := ⟨h.cell 0, h.cell 1⟩
theorem info_mg : (Tryz.prog.info? 33).map (fun i => (i.zero, i.size, i.bytes)) = some (some (.agg #[.int .i64 0, .slice none 0 0, .int .i64 0, .string ⟨#[]⟩, .string ⟨#[]⟩]), 5, 72) := by kernel_rfl
def IsSp (a : Sp) (w : World) (e : Ending) (w' : World) : Prop := e = .returned (vsp a) ∧ Below w.heap.size w w'
def Upto (l : List Wt) (k a : Nat) : Prop := ∃ x, l[a]? = some x ∧ a < k ∧ (∀ j b, j < k → l[j]? = some b → TM.less (KM.stp b) (KM.stp x) = false) ∧ ∀ j b, j < a → l[j]? = some b → TM.less (KM.stp x) (KM.stp b) = true
theorem upto_one {l : List Wt} (h : l ≠ []) : Upto l 1 0 := by
  rcases l with _ | ⟨x, r⟩
  · exact absurd rfl h
  · exact ⟨x, rfl, by omega, fun j b hj hb => by obtain rfl : j = 0 := by omega
                                                 injection hb with hb; subst hb; exact TM.less_irrefl _, fun j b hj => absurd hj (by omega)⟩
theorem Upto.all {l : List Wt} {k a : Nat} (h : Upto l k a) (hk : l.length ≤ k) : KM.lst l = a := by
 obtain ⟨x, h1, h2, h3, h4⟩ := h
 exact KM.lst_eq ⟨x, h1, fun j b hb => h3 j b (by have := (List.getElem?_eq_some_iff.1 hb).1; omega) hb, h4⟩
theorem Upto.keep {l : List Wt} {k a : Nat} {x y : Wt} (h : Upto l k a) (ha : l[a]? = some x) (hy : l[k]? = some y) (hl : TM.less (KM.stp y) (KM.stp x) = false) : Upto l (k + 1) a := by
 obtain ⟨x', h1, h2, h3, h4⟩ := h
 rw [ha] at h1; injection h1 with h1; subst h1
 refine ⟨x, ha, by omega, fun j b hj hb => ?_, h4⟩
 rcases (show j < k ∨ j = k by omega) with h | rfl
 ·exact h3 j b h hb
 ·rw [hy] at hb; injection hb with hb; subst hb; exact hl
theorem Upto.turn {l : List Wt} {k a : Nat} {x y : Wt} (h : Upto l k a) (ha : l[a]? = some x) (hy : l[k]? = some y) (hl : TM.less (KM.stp y) (KM.stp x) = true) : Upto l (k + 1) k := by
 obtain ⟨x', h1, h2, h3, h4⟩ := h
 rw [ha] at h1; injection h1 with h1; subst h1
 refine ⟨y, hy, by omega, fun j b hj hb => ?_, fun j b hj hb => ?_⟩
 ·rcases (show j < k ∨ j = k by omega) with h | rfl
  ·exact KM.less_neg (KM.less_asymm hl) (h3 j b h hb)
  ·rw [hy] at hb; injection hb with hb; subst hb; exact TM.less_irrefl _
 ·have h5 := h3 j b (by omega) hb
  simp only [TM.less, decide_eq_false_iff_not, decide_eq_true_eq] at hl h5 ⊢
  unfold TM.lt at hl h5 ⊢
  omega
theorem take_more {α : Type} {x y : List α} {k : Nat} {a : α} (h : x.take k = y.take k) (hx : x[k]? = some a) (hy : y[k]? = some a) : x.take (k + 1) = y.take (k + 1) := by
 rw [List.take_add_one, List.take_add_one, h, hx, hy]
theorem take_all {α : Type} {x y : List α} {k : Nat} (h : x.take k = y.take k) (hx : x.length = k) (hy : y.length = k) : x = y := by
 rwa [List.take_of_length_le (by omega), List.take_of_length_le (by omega)] at h
theorem ne_at {α : Type} {x y : List α} {k : Nat} {a b : α} (hx : x[k]? = some a) (hy : y[k]? = some b) (h : a ≠ b) : x ≠ y := by
 rintro rfl
 rw [hx] at hy
 injection hy with hy
 exact h hy
theorem box_wtf {w : World} {g : Nat} {t : TypeId} {a0 a1 a2 a3 a4 a5 a6 : Value} (h : Box w g t #[a0, a1, a2, a3, a4, a5, a6]) :
  (w.cell? ⟨g, 0, none⟩ = some a0 ∧ w.cell? ⟨g, 1, none⟩ = some a1 ∧ w.cell? ⟨g, 2, none⟩ = some a2 ∧ w.cell? ⟨g, 3, none⟩ = some a3 ∧ w.cell? ⟨g, 4, none⟩ = some a4 ∧ w.cell? ⟨g, 5, none⟩ = some a5 ∧ w.cell? ⟨g, 6, none⟩ = some a6) ∧
  w.frozen? ⟨g, 0, none⟩ = false ∧ w.frozen? ⟨g, 1, none⟩ = false ∧ w.frozen? ⟨g, 2, none⟩ = false ∧ w.frozen? ⟨g, 3, none⟩ = false ∧ w.frozen? ⟨g, 4, none⟩ = false ∧ w.frozen? ⟨g, 5, none⟩ = false ∧ w.frozen? ⟨g, 6, none⟩ = false :=
 ⟨box_wt h, h.frozen 0, h.frozen 1, h.frozen 2, h.frozen 3, h.frozen 4, h.frozen 5, h.frozen 6⟩
def Two (w : World) (a b : Array Value) (u v : Value) (wx : World) : Prop := ∃ p q, u = .pointer (some ⟨p, 0, none⟩) ∧ v = .pointer (some ⟨q, 0, none⟩) ∧ Box wx p 78 a ∧ Box wx q 78 b ∧ Below w.heap.size w wx
def wcs (A : Option Addr) (c : Nat) (x : Wt) : Array Value := #[.int .i64 x.m.id, .slice A x.m.gs.length c, .int .i64 x.m.tp, .string x.m.key, .string x.m.body, .int .i64 x.t, .bool x.f]
theorem wt_ne {x y : Wt} (h : x ≠ y) : x.m ≠ y.m ∨ (x.m = y.m ∧ x.t ≠ y.t) ∨ (x.m = y.m ∧ x.t = y.t ∧ x.f ≠ y.f) := by
 obtain ⟨a, b, c⟩ := x
 obtain ⟨d, e, f⟩ := y
 by_cases h1 : a = d
 ·by_cases h2 : b = e
  ·exact .inr (.inr ⟨h1, h2, fun h3 => h (by simp only at h1 h2 h3; rw [h1, h2, h3])⟩)
  ·exact .inr (.inl ⟨h1, h2⟩)
 ·exact .inl h1
def WtFit (x : Wt) : Prop := MgFit x.m ∧ i64In x.t
def SpIn (a : Sp) : Prop := i64In a.t ∧ i64In a.i
def SkFit (s : Sk) : Prop := i64In s.c ∧ (∀ x ∈ s.ws, WtFit x ∧ x.m.gs.length ≤ 17592186044416) ∧ ∀ x ∈ s.ds, SpIn x
theorem box_mg5 {w : World} {g : Nat} {t : TypeId} {a b c d e : Value} (h : Box w g t #[a, b, c, d, e]) :
  (w.cell? ⟨g, 0, none⟩ = some a ∧ w.cell? ⟨g, 1, none⟩ = some b ∧ w.cell? ⟨g, 2, none⟩ = some c ∧ w.cell? ⟨g, 3, none⟩ = some d ∧ w.cell? ⟨g, 4, none⟩ = some e) ∧
   w.frozen? ⟨g, 0, none⟩ = false ∧ w.frozen? ⟨g, 1, none⟩ = false ∧ w.frozen? ⟨g, 2, none⟩ = false ∧ w.frozen? ⟨g, 3, none⟩ = false ∧ w.frozen? ⟨g, 4, none⟩ = false :=
 ⟨box_mg h, h.frozen 0, h.frozen 1, h.frozen 2, h.frozen 3, h.frozen 4⟩
theorem info_int15 : (Tryz.prog.info? 3).map (fun i => (i.zero, i.size, i.bytes)) = some (some (.int .i64 0), 1, 8) := by kernel_rfl
def TmIs (m : Mg) (w : World) (e : Ending) (w' : World) : Prop := ∃ A c, e = .returned (.agg (mcells A c m)) ∧ RowGe w' w.heap.size A c m.gs ∧ Below w.heap.size w w'
theorem RowGe.setB {w : World} {b : Nat} {A : Option Addr} {c : Nat} {l : List Int} (h : RowGe w b A c l) {g : Nat} (hg : g < b) (a0 a1 a2 a3 a4 : Value) : RowGe (pt5 w g a0 a1 a2 a3 a4) b A c l := by
 unfold pt5
 exact ((((h.set hg a0).set hg a1).set hg a2).set hg a3).set hg a4
theorem info_sp : (Tryz.prog.info? 46).map (fun i => (i.zero, i.size, i.bytes)) = some (some (.agg #[.int .i64 0, .int .i64 0]), 2, 16) := by kernel_rfl
theorem info_wt : (Tryz.prog.info? 78).map (fun i => (i.zero, i.size, i.bytes)) = some (some (.agg #[.int .i64 0, .slice none 0 0, .int .i64 0, .string ⟨#[]⟩, .string ⟨#[]⟩, .int .i64 0, .bool false]), 7, 88) := by kernel_rfl
def SkNew (s : Sk) (w : World) (e : Ending) (w' : World) : Prop := ∃ v, e = .returned v ∧ SkO w' w.heap.size v s ∧ Below w.heap.size w w'
def ApIs (R : Sk × List Mg × Int) (w : World) (e : Ending) (w' : World) : Prop := ∃ v vm, e = .returned (.tuple #[v, vm, .int .i64 R.2.2]) ∧ SkO w' w.heap.size v R.1 ∧ KO KM_ w' w.heap.size 33 vm R.2.1 ∧ Below w.heap.size w w'
end KP
namespace LP
open Go.RowKit CP
open CM (Cm Mg)
def CoIs (l : List ByteArray) (w : World) (x : Ending) (w' : World) : Prop :=
 Below w.heap.size w w' ∧ ((LM.chk l ≠ 0 ∧ x = .returned (.tuple #[.slice none 0 0, .int .i64 (LM.chk l)])) ∨ (LM.chk l = 0 ∧ ∃ v, x = .returned (.tuple #[v, .int .i64 0]) ∧ CmsO w' w.heap.size v (LM.cmds l)))
end LP
namespace KP
open Go.RowKit CP TP
open CM (Mg Cm)
open TM (Sp)
open KM (Wt Sk)
theorem box_type {w : World} {g : Nat} {t t' : TypeId} {cs cs' : Array Value} (h : Box w g t cs) (h' : Box w g t' cs') : t = t' := by
 rw [Box] at h h'
 rw [h] at h'
 injection h' with h'
 injection h' with _ h'
section
variable {α : Type} {K : Kd α} {w w' : World} {b : Nat} {T : TypeId} {v : Value} {l : List α} {S : TypeId → Prop}
theorem rowGe_kept {A : Option Addr} {c : Nat} {L : List Int} (k : Kept S w w') (hi : ¬ S 3) (h : RowGe w b A c L) : RowGe w' b A c L := by
 refine ⟨⟨⟨h.1.1.1, fun hn => ?_⟩, h.1.2⟩, h.2, fun hn => ?_⟩
 ·obtain ⟨g, cur, e, hb, hx, hs⟩ := h.3 hn
  obtain ⟨ad, e2, hB, hc⟩ := h.1.1.2 hn
  rw [e] at e2
  injection e2 with e2
  subst e2
  have hx' := k.box g _ cur hi hx
  refine ⟨⟨g, 0, none⟩, e, hx'.lt, fun j u hu => ?_⟩
  have := hc j u hu
  rw [add_none] at this ⊢
  rw [hx.cell] at this
  rw [hx'.cell]
  exact this
 ·obtain ⟨g, cur, e, hb, hx, hs⟩ := h.3 hn
  exact ⟨g, cur, e, hb, k.box g _ cur hi hx, hs⟩
theorem KO.kept (k : Kept S w w') (hi : ¬ S 3) (hT : ¬ S T) (h : KO K w b T v l) : KO K w' b T v l := by
 obtain ⟨es, h1, h2, h3⟩ := h
 exact ⟨es, h1, k.own h2 hT, fun e he => ⟨rowGe_kept k hi (h3 e he).1, (h3 e he).2⟩⟩
theorem KO.set (h : KO K w b T v l) {g i : Nat} (hg : g < b) (u : Value) : KO K (w.setCell ⟨g, i, none⟩ u) b T v l := by
 obtain ⟨es, h1, h2, h3⟩ := h
 exact ⟨es, h1, ownsRow_setCell_below h2 (a := ⟨g, i, none⟩) hg u, fun e he => ⟨(h3 e he).1.set hg u, (h3 e he).2⟩⟩
theorem own_ne {base s n g : Nat} {e t : TypeId} {xs : List Value} {cs : Array Value} (h : w.ownsRow base e s v n xs) (hx : Box w g t cs) (hne : e ≠ t) : some g ≠ v.ownBlock := fun k => by
 obtain ⟨_, cur, hc⟩ := own_block h k.symm
 exact hne (box_type hc hx)
theorem own_ne2 {base base' s s' n n' : Nat} {e t : TypeId} {v' : Value} {xs ys : List Value} (h : w.ownsRow base e s v n xs) (h' : w.ownsRow base' t s' v' n' ys) (hne : e ≠ t) : ∀ g, v'.ownBlock = some g → some g ≠ v.ownBlock := fun g hg => by
 obtain ⟨_, cur, hc⟩ := own_block h' hg
 exact own_ne h hc hne
end
theorem kept_put3 {w : World} {g : Nat} {t : TypeId} {cs : Array Value} (h : Box w g t cs) (x y z : Value) : Kept (fun e => e = t) w (((w.setCell ⟨g, 0, none⟩ x).setCell ⟨g, 1, none⟩ y).setCell ⟨g, 2, none⟩ z) :=
 Kept.trans (Kept.trans (Kept.set (S := fun e => e = t) h rfl x) (Kept.set (S := fun e => e = t) (h.stored 0 x) rfl y)) (Kept.set (S := fun e => e = t) ((h.stored 0 x).stored 1 y) rfl z)
structure TwR (w1 : World) (p b2 : Nat) (c : Int) (vd : Value) (ds : List Sp) (l : List Wt) (W : World) : Prop where
 bl : Below w1.heap.size w1 W
 ok : w1.heap.size ≤ p ∧ p < b2 ∧ b2 ≤ W.heap.size
 bp : ∃ vW, Box W p 39 #[.int .i64 c, vW, vd] ∧ KO KW W b2 78 vW l
 dn : W.ownsRow w1.heap.size 46 2 vd ds.length (flat spc ds)
theorem twR_next {w1 W Wa W' : World} {p b2 : Nat} {c : Int} {vd vW v2 : Value} {ds : List Sp} {l : List Wt} {x : Wt} {A : Option Addr} {d : Nat} (hT : TwR w1 p b2 c vd ds l W) (hbp : Box W p 39 #[.int .i64 c, vW, vd])
  {k : Nat} (es : List (Ex Wt)) (hk : es.length = k) (hl : es.map Ex.x = l) (ho : W.ownsRow b2 78 7 vW k (flat (exc KW) es)) (hr : ∀ e ∈ es, RowGe W b2 e.A e.c (KW.gs e.x) ∧ ∀ ad, e.A = some ad → 0 < (KW.gs e.x).length → vW.ownBlock ≠ some ad.block)
  (hb : Below W.heap.size W Wa) (h1 : RowGe Wa W.heap.size A d x.m.gs) (hg : Wa.grownBy W' vW.ownBlock)
  (ho2 : W'.ownsRow b2 78 7 v2 (k + 1) (flat (exc KW) es ++ KW.cel A d x)) (hob : v2.ownBlock = vW.ownBlock ∨ v2.ownBlock = some Wa.heap.size) : TwR w1 p b2 c vd ds (l ++ [x]) (W'.setCell ⟨p, 1, none⟩ v2) := by
 subst hk
 have hsz : W.heap.size ≤ Wa.heap.size := hb.size
 have hoa := own_below3 ho hb
 have hbpa := hbp.below hb hbp.lt
 have hdn := own_below3 hT.dn hb
 have hpw := own_ne hoa hbpa (by decide)
 have hbp' := hbpa.grown hg hpw
 have hKO : KO KW W' b2 78 v2 (l ++ [x]) := kO_next (K := KW) es hl (fun e he => ⟨(hr e he).1.below hb, (hr e he).2⟩) (h1.mono hT.ok.2.2) (fun ad ea hn k => by
  obtain ⟨_, cur, hc⟩ := own_block ho k
  have := h1.2 ad ea hn
  have := hc.lt
  omega) hg ho2 hob
 have hk : Kept (· = 39) W' (W'.setCell ⟨p, 1, none⟩ v2) := Kept.set (S := fun e => e = 39) hbp' rfl v2
 refine ⟨?_, ⟨hT.ok.1, hT.ok.2.1, ?_⟩, ⟨v2, by have := hbp'.stored 1 v2; simpa using this, KO.kept hk (by decide) (by decide) hKO⟩, hk.own (own_grown hdn hg (own_ne2 hoa hdn (by decide))) (by decide)⟩
 ·refine Below.setCell ?_ (p := ⟨p, 1, none⟩) hT.ok.1 v2
  exact below_row (bmore hT.bl hb n!) (own_base hoa (Nat.le_of_lt (Nat.lt_of_le_of_lt hT.ok.1 hT.ok.2.1))) (Nat.le_trans hT.bl.size hsz) hg
 ·have h1 := hT.ok.2.2
  have h2 := hg.size
  show b2 ≤ (W'.setCell ⟨p, 1, none⟩ v2).heap.size
  have : (W'.setCell ⟨p, 1, none⟩ v2).heap.size = W'.heap.size := by simp
  omega
end KP
end Go.Proofs.YteebeiaokfenmaaGreat
