/- Contracts of functions of towncrier, layers 5 to 9, and of the document's own ones, part 31; each as its theorem says. -/
import Derived.Test.YtiiobafcgdelmaaGreatL01
import Derived.Test.YtiiobafcgdelmaaGreatL27
import Derived.Test.YtiiobafcgdelmaaGreatL30
import Derived.Deep.RegionLaw
import Derived.Test.YtiiobafcgdelmaaGreatL26
import Derived.Deep.MidRow
import Derived.Test.YtiiobafcgdelmaaGreatL25
set_option linter.unusedVariables false
set_option linter.unusedSimpArgs false
namespace Go.Proofs.YtiiobafcgdelmaaGreat
open Go.RowKit
def AtCap (v : Value) : Prop := ∀ c0 c1 A n c c3 c4 B m d C k f, v = .agg #[c0, c1, .slice A n c, c3, c4, .slice B m d, .slice C k f] → (m ≤ d ∧ d ≤ maxLen) ∧ (k ≤ f ∧ f ≤ maxLen)
def AftSt (wt u : World) (T : Array Value) : Prop := Below wt.heap.size wt u ∧ Box u wt.heap.size 57 T
section
variable {wt u u' : World} {T : Array Value}
theorem AftSt.start (wt : World) (T : Array Value) : AftSt wt (wt.alloc (.cells T 57)) T := ⟨(Below.refl _ _).alloc n! _, Box.new _ _ _⟩
theorem AftSt.below (h : AftSt wt u T) (hb : Below u.heap.size u u') : AftSt wt u' T := ⟨bmore h.1 hb n!, h.2.below hb h.2.lt⟩
theorem AftSt.drewN (h : AftSt wt u T) (q : Nat) : AftSt wt (u.drewN q) T := h.below (below_drewN (Below.refl _ _) q)
theorem AftSt.alloc (h : AftSt wt u T) (o : Obj) : AftSt wt (u.alloc o) T := h.below ((Below.refl _ _).alloc n! o)
theorem AftSt.grown {r : Option Nat} (h : AftSt wt u T) (hg : u.grownBy u' r) (hr : ∀ g, r = some g → wt.heap.size < g) : AftSt wt u' T :=
 ⟨h.1.grown hg h.1.size (fun g e => Nat.le_of_lt (hr g e)), h.2.grown hg (fun e => by have := hr _ e.symm; omega)⟩
theorem AftSt.set (h : AftSt wt u T) (i : Nat) (x : Value) : AftSt wt (u.setCell ⟨wt.heap.size, i, none⟩ x) (T.setIfInBounds i x) := ⟨h.1.setCell n! x, h.2.stored i x⟩
theorem AftSt.row {s n : Nat} {e : TypeId} {v : Value} {xs : List Value} (h : u.ownsRow (wt.heap.size + 1) e s v n xs) (g : Nat) (hg : v.ownBlock = some g) : wt.heap.size < g := (own_block h hg).1
theorem AftSt.room (h : AftSt wt u T) : wt.heap.size + 1 ≤ u.heap.size := h.2.lt
end
theorem step_append_g {P : Program} {ops : Array Oper} {o : Oper} {a : Act} {w : World} {K : Act → World → Prop} {Q : Exit → Act → World → Prop} {E : Prop}
  (hgd : o.guard = none) (so x : Operand) (t : TypeId)
  (ho : o.op = .call { callee := .builtin .append, args := #[so, x], argTypes := #[t, t] })
  (base : Nat) (e : TypeId) (i : TypeInfo) (z : Value) (s bytes : Nat) (ht : P.underlying t = some (.slice e)) (hi : P.info? e = some i) (hz : i.zero = some z)
  (hsize : i.size = s) (hby : i.bytes = bytes) (hzs : z.cells.size = s) (hsz : 0 < s)
  (v : Value) (n : Nat) (xs : List Value) (hs : a.eval so = v) (hown : w.ownsRow base e s v n xs)
  (A : Option Addr) (m c : Nat) (news : List Value) (hx : a.eval x = .slice A m c) (hr : RdG w s A m news) (h1 : ∀ u ∈ news, u.oneCell' = true)
  (h63 : n + m ≤ maxLen) (hbytes : (n + m) * bytes ≤ 140737488355328) (hbase : base ≤ w.heap.size)
  (hK : ∀ v' w', w'.ownsRow base e s v' (n + m) (xs ++ news) → w.grownBy w' v.ownBlock → K (a.put o.dst v') w') :
  if Region.wanted o (yielded ops a.tmps) = true then Oper.wp P o a w K Q else E := by
 have hw : Region.wanted o (yielded ops a.tmps) = true := by simp [Region.wanted, hgd]
 rw [if_pos hw]
 obtain ⟨v', w', hrun, h2, h3, h4⟩ := run_append_g (P := P) w base t o.type e i z s bytes ht hi hz hsize hby hzs hsz v n xs hown A m c news hr h1 h63 hbytes hbase
 unfold Oper.wp execOp
 simp only [ho, resolve, invoke, builtin, Sem.run_bind, Sem.run_pure, Result.andThen_ok, List.map_toArray, List.map_cons, List.map_nil, hs, hx, hrun]
 exact hK _ _ h2 h3
theorem ic_split (l : List Int) (x : Int) : ic (l.take (pos l x)) ++ [.int .i64 x] ++ ic (l.drop (pos l x)) = ic (AM.insI l x) := by
 rw [insI_pos]; simp [ic]
theorem pp_split (l : List AM.Pr) (p : AM.Pr) : pp (l.take (pos (AM.nodes l) p.n)) ++ [.int .i64 p.n, .int .i64 p.b, .string p.v] ++ pp (l.drop (pos (AM.nodes l) p.n)) = pp (AM.insP l p) := by
 rw [insP_pos]; simp [pp]
theorem pos_test {ns : List Int} {x y : Int} {j : Nat} (hj : j ≤ pos ns x) (hy : ns[j]? = some y) : decide (y < x) = decide (j < pos ns x) := by
 obtain ⟨h1, h2⟩ := pos_cut ns x
 by_cases h : j < pos ns x
 ·have := h1 j y h hy
  simp [h, this]
 ·obtain rfl : pos ns x = j := by omega
  have := h2 y hy
  simp; omega
def isTk (e : TypeId) : Prop := e = 28 ∨ e = 51 ∨ e = 53 ∨ e = 57 ∨ e = 59
section
variable {W : World} {base g i q : Nat} {w : DC.Wd} {A0 A1 A2 A3 A4 : Option Addr} {c0 c1 c2 c3 c4 : Nat} {xs : List Value}
theorem wd_setT {t : AM.At} {x0 x1 x2 x3 x4 x5 x6 : Value} (hg : base ≤ g) (hx : Box W g 28 #[.slice A0 w.ms.length c0, .slice A1 w.vs.length c1, .slice (some ⟨q, 0, none⟩) w.ts.length c2, .slice A3 w.ml.length c3, .slice A4 w.ch.length c4])
  (o0 : W.ownsRow base 3 1 (.slice A0 w.ms.length c0) w.ms.length (ic w.ms)) (o1 : W.ownsRow base 59 3 (.slice A1 w.vs.length c1) w.vs.length (flat vcell w.vs))
  (o2 : W.ownsRow base 57 7 (.slice (some ⟨q, 0, none⟩) w.ts.length c2) w.ts.length xs) (ht : TsRow W base xs w.ts) (o3 : OwnsM W base (.slice A3 w.ml.length c3) w.ml.length (flat mcell w.ml)) (o4 : W.ownsRow base 53 2 (.slice A4 w.ch.length c4) w.ch.length (flat ccell w.ch))
  (hi : i < w.ts.length) (ho : AtOwn W base (.agg #[x0, x1, x2, x3, x4, x5, x6]) t) :
  WdAt (putAt7 W q (i * 7) x0 x1 x2 x3 x4 x5 x6) base g ⟨w.ms, w.vs, w.ts.set i t, w.ml, w.ch⟩ ∧ Kept isA W (putAt7 W q (i * 7) x0 x1 x2 x3 x4 x5 x6) ∧ Below base W (putAt7 W q (i * 7) x0 x1 x2 x3 x4 x5 x6) := by
 have hqb := (own_block o2 (show (Value.slice (some ⟨q, 0, none⟩) w.ts.length c2).ownBlock = some q from rfl)).1
 obtain ⟨o2', kk⟩ := own_at7 (o := i * 7) (S := isA) o2 (by omega) rfl x0 x1 x2 x3 x4 x5 x6
 have nI : ¬ isA 3 := by unfold isA; decide
 have nP : ¬ isA 86 := by unfold isA; decide
 have ht' := (ht.set hi ho).kept kk nI nP
 refine ⟨⟨A0, c0, A1, c1, some ⟨q, 0, none⟩, c2, A3, c3, A4, c4, _, hg, ?_, kk.own o0 nI, kk.own o1 (by unfold isA; decide), ?_, ht', kk.ownM o3 (by unfold isA; decide), kk.own o4 (by unfold isA; decide)⟩, kk, below_at7 ⟨rfl, rfl, rfl, Nat.le_refl _, fun _ _ => rfl⟩ hqb ..⟩
 ·have := kk.box _ _ _ (by unfold isA; decide) hx
  simpa using this
 ·show World.ownsRow _ base _ 7 (.slice (some ⟨q, 0, none⟩) (w.ts.set i t).length c2) (w.ts.set i t).length _
  rw [List.length_set]
  exact o2'
theorem wd_setV {v : DC.Vt} (hg : base ≤ g) (hx : Box W g 28 #[.slice A0 w.ms.length c0, .slice (some ⟨q, 0, none⟩) w.vs.length c1, .slice A2 w.ts.length c2, .slice A3 w.ml.length c3, .slice A4 w.ch.length c4])
  (o0 : W.ownsRow base 3 1 (.slice A0 w.ms.length c0) w.ms.length (ic w.ms)) (o1 : W.ownsRow base 59 3 (.slice (some ⟨q, 0, none⟩) w.vs.length c1) w.vs.length (flat vcell w.vs))
  (o2 : W.ownsRow base 57 7 (.slice A2 w.ts.length c2) w.ts.length xs) (ht : TsRow W base xs w.ts) (o3 : OwnsM W base (.slice A3 w.ml.length c3) w.ml.length (flat mcell w.ml)) (o4 : W.ownsRow base 53 2 (.slice A4 w.ch.length c4) w.ch.length (flat ccell w.ch))
  (hi : i < w.vs.length) :
  WdAt (putAt3 W q (i * 3) (.int .i64 v.p) (.int .i64 v.b) (.string v.v)) base g ⟨w.ms, w.vs.set i v, w.ts, w.ml, w.ch⟩ ∧ Kept isV W (putAt3 W q (i * 3) (.int .i64 v.p) (.int .i64 v.b) (.string v.v)) ∧ Below base W (putAt3 W q (i * 3) (.int .i64 v.p) (.int .i64 v.b) (.string v.v)) := by
 have hqb := (own_block o1 (show (Value.slice (some ⟨q, 0, none⟩) w.vs.length c1).ownBlock = some q from rfl)).1
 obtain ⟨o1', kk⟩ := own_at3 (o := i * 3) (S := isV) o1 (by omega) rfl (.int .i64 v.p) (.int .i64 v.b) (.string v.v)
 have nI : ¬ isV 3 := by unfold isV; decide
 have nP : ¬ isV 86 := by unfold isV; decide
 refine ⟨⟨A0, c0, some ⟨q, 0, none⟩, c1, A2, c2, A3, c3, A4, c4, xs, hg, ?_, kk.own o0 nI, ?_, kk.own o2 (by unfold isV; decide), ht.kept kk nI nP, kk.ownM o3 (by unfold isV; decide), kk.own o4 (by unfold isV; decide)⟩, kk, below_at3 ⟨rfl, rfl, rfl, Nat.le_refl _, fun _ _ => rfl⟩ hqb ..⟩
 ·have := kk.box _ _ _ (by unfold isV; decide) hx
  simpa using this
 ·show World.ownsRow _ base _ 3 (.slice (some ⟨q, 0, none⟩) (w.vs.set i v).length c1) (w.vs.set i v).length (flat vcell (w.vs.set i v))
  rw [List.length_set, flat_set (s := 3) (fun _ _ => rfl) rfl hi]
  exact o1'
end
theorem AtOwn.cap {W : World} {base : Nat} {v : Value} {t : AM.At} (h : AtOwn W base v t) : AtCap v := by
 obtain ⟨x, y, z, rfl, h1, h2, h3⟩ := h
 intro c0 c1 A n c c3 c4 B m d C k f e
 simp only [Value.agg.injEq, Array.mk.injEq, List.cons.injEq, and_true] at e
 obtain ⟨_, _, rfl, _, _, rfl, rfl⟩ := e
 obtain ⟨B', d', e, g1, g2⟩ := own_form h2
 injection e with _ e1 e2
 subst e1 e2
 obtain ⟨C', f', e, g3, g4⟩ := own_form h3
 injection e with _ e1 e2
 subst e1 e2
 exact ⟨⟨g1, g2⟩, g3, g4⟩
end Go.Proofs.YtiiobafcgdelmaaGreat
namespace Go.Proofs.YtiiobafcgdelmaaGreat.PD
open Go.RowKit Go.Shelf
abbrev RW (W : World) (base g : Nat) (w : DC.Wd) : Prop := Go.Proofs.YtiiobafcgdelmaaGreat.WdAt W base g w
theorem OwnsM.cap {w : World} {base n c : Nat} {A : Option Addr} {xs : List Value} (h : OwnsM w base (.slice A n c) n xs) : n ≤ c := by
 rcases h with h | ⟨h1, h2, g, cur, hv, hg, hx, hc⟩
 ·obtain ⟨A', c', e, h1, _⟩ := own_form h
  injection e with _ _ e
  omega
 ·injection hv with _ _ e
  omega
def WCap (v : Value) : Prop := ∀ c0 c1 c2 A n c c4, v = .agg #[c0, c1, c2, .slice A n c, c4] → n ≤ c
theorem WOwn.rat {W U : World} {base g : Nat} {w : DC.Wd} {A0 A1 A2 A3 A4 : Option Addr} {c0 c1 c2 c3 c4 : Nat} (h : WOwn W base (.agg #[.slice A0 w.ms.length c0, .slice A1 w.vs.length c1, .slice A2 w.ts.length c2, .slice A3 w.ml.length c3, .slice A4 w.ch.length c4]) w)
  (hb : Below W.heap.size W U) (hg : base ≤ g) (hx : Box U g 28 #[.slice A0 w.ms.length c0, .slice A1 w.vs.length c1, .slice A2 w.ts.length c2, .slice A3 w.ml.length c3, .slice A4 w.ch.length c4]) : RW U base g w := by
 obtain ⟨B0, d0, B1, d1, B2, d2, B3, d3, B4, d4, xs, e, o0, o1, o2, ht, o3, o4⟩ := h.below hb
 simp only [Value.agg.injEq, Array.mk.injEq, List.cons.injEq, Value.slice.injEq, and_true, true_and] at e
 obtain ⟨⟨rfl, rfl⟩, ⟨rfl, rfl⟩, ⟨rfl, rfl⟩, ⟨rfl, rfl⟩, rfl, rfl⟩ := e
 exact ⟨_, _, _, _, _, _, _, _, _, _, xs, hg, hx, o0, o1, o2, ht, .inl o3, o4⟩
def WIk (W : World) (v : Value) (w : DC.Wd) : Prop := ∀ W', Kept isW W W' → WIs W' v w
theorem WIk.is {W : World} {v : Value} {w : DC.Wd} (h : WIk W v w) : WIs W v w := h _ (Kept.refl _ _)
theorem WIk.kept {W W' : World} {v : Value} {w : DC.Wd} (h : WIk W v w) (k : Kept isW W W') : WIk W' v w := fun W2 k2 => h W2 (k.trans k2)
theorem WIk.below {W W' : World} {v : Value} {w : DC.Wd} (h : WIk W v w) (k : Below W.heap.size W W') : WIk W' v w := h.kept (Kept.of_below k)
theorem WOwn.wik {W : World} {base : Nat} {v : Value} {w : DC.Wd} (h : WOwn W base v w) : WIk W v w := fun W' k => (h.kept k).is
theorem RW.rd {W : World} {base g : Nat} {w : DC.Wd} (h : RW W base g w) : ∃ A0 c0 A1 c1 A2 c2 A3 c3 A4 c4, Box W g 28 #[.slice A0 w.ms.length c0, .slice A1 w.vs.length c1, .slice A2 w.ts.length c2, .slice A3 w.ml.length c3, .slice A4 w.ch.length c4] ∧ WIk W (.agg #[.slice A0 w.ms.length c0, .slice A1 w.vs.length c1, .slice A2 w.ts.length c2, .slice A3 w.ml.length c3, .slice A4 w.ch.length c4]) w ∧ w.ml.length ≤ c3 := by
 obtain ⟨A0, c0, A1, c1, A2, c2, A3, c3, A4, c4, xs, hg, hx, o0, o1, o2, ht, o3, o4⟩ := h
 exact ⟨A0, c0, A1, c1, A2, c2, A3, c3, A4, c4, hx, fun W' k => ⟨A0, c0, A1, c1, A2, c2, A3, c3, A4, c4, xs, rfl, Rd.of_own (k.own o0 (by unfold isW; decide)), rdG_own (k.own o1 (by unfold isW; decide)), rdG_own (k.own o2 (by unfold isW; decide)),
  TsRow.is (ht.kept k (by unfold isW; decide) (by unfold isW; decide)), (k.ownM o3 (by unfold isW; decide)).rd, rdG_own (k.own o4 (by unfold isW; decide))⟩, OwnsM.cap o3⟩
theorem wcap_of {c0 c1 c2 c4 : Value} {A : Option Addr} {n c : Nat} (h : n ≤ c) : WCap (.agg #[c0, c1, c2, .slice A n c, c4]) := by
 intro d0 d1 d2 B m d d4 e
 simp only [Value.agg.injEq, Array.mk.injEq, List.cons.injEq, and_true] at e
 obtain ⟨_, _, _, e, _⟩ := e
 injection e with _ e1 e2
 subst e1 e2
 exact h
theorem RW.crash {U : World} {base g i : Nat} {w : DC.Wd} (h : RW U base g w) (hl : w.ts.length = 6) (hi : i < 6) :
  ∃ q c2, U.cell? ⟨g, 2, none⟩ = some (.slice (some ⟨q, 0, none⟩) w.ts.length c2) ∧ U.there q (i * 7) 7 ∧ RW (U.setCells q (i * 7) [.int .u8 0, .int .i64 0, .slice none 0 0, .string ⟨#[]⟩, .string ⟨#[]⟩, .slice none 0 0, .slice none 0 0]) base g ⟨w.ms, w.vs, w.ts.set i AM.zero, w.ml, w.ch⟩ ∧ Below base U (U.setCells q (i * 7) [.int .u8 0, .int .i64 0, .slice none 0 0, .string ⟨#[]⟩, .string ⟨#[]⟩, .slice none 0 0, .slice none 0 0]) := by
 obtain ⟨A0, c0, A1, c1, A2, c2, A3, c3, A4, c4, xs, hg, hx, o0, o1, o2, ht, o3, o4⟩ := h
 obtain ⟨q, rfl, _, _⟩ := own_some o2 (by omega)
 have hst := Go.Proofs.YtiiobafcgdelmaaGreat.wd_setT (i := i) hg hx o0 o1 o2 ht o3 o4 (by omega) (show AtOwn U base (.agg #[.int .u8 0, .int .i64 0, .slice none 0 0, .string ⟨#[]⟩, .string ⟨#[]⟩, .slice none 0 0, .slice none 0 0]) AM.zero from AtOwn.zero U base)
 exact ⟨q, c2, hx.five.1.2.2.1, there_own o2 (by omega), hst.1, hst.2.2⟩
theorem flat_gone (ml : List DC.Ml) (j : Nat) : (flat mcell ml).take (j * 10) ++ flat mcell (ml.drop (j + 1)) = flat mcell (ml.eraseIdx j) := by
 rw [List.eraseIdx_eq_take_drop_succ, flat_append]
 congr 1
 induction ml generalizing j with
 | nil => simp [flat]
 | cons a l ih =>
  cases j with
  | zero => simp [flat]
  | succ j =>
   rw [List.take_succ_cons, flat_cons, flat_cons, ← ih, show (j + 1) * 10 = 10 + j * 10 by omega]
   exact List.take_append_of_le_length (l₁ := mcell a) (l₂ := flat mcell l) (i := 10 + j * 10) |> fun _ => by
    rw [List.take_append, show (mcell a).length = 10 from rfl, show 10 + j * 10 - 10 = j * 10 by omega, List.take_of_length_le (by show 10 ≤ 10 + j * 10; omega)]
theorem RdG.rest {w : World} {n j : Nat} {A : Option Addr} {xs : List Value} (h : RdG w 10 A n xs) (hj : j ≤ n) : RdG w 10 (A.map (fun ad => ad.add (j * 10))) (n - j) (xs.drop (j * 10)) := by
 refine ⟨by rw [List.length_drop, h.1]; omega, fun hn => ?_⟩
 obtain ⟨ad, rfl, hb, hc⟩ := h.2 (by omega)
 refine ⟨ad.add (j * 10), rfl, by rw [block_of_add]; exact hb, fun k u hu => ?_⟩
 rw [List.getElem?_drop] at hu
 have := hc _ u hu
 rwa [← Addr.add_add] at this
theorem step_cut {P : Program} {ops : Array Oper} {o : Oper} {a : Act} {w : World} {K : Act → World → Prop} {Q : Exit → Act → World → Prop} {E : Prop}
  (hgd : o.guard = none) (so x : Operand) (t : TypeId)
  (ho : o.op = .call { callee := .builtin .append, args := #[so, x], argTypes := #[t, t] })
  (base : Nat) (i : TypeInfo) (z : Value) (bytes : Nat) (ht : P.underlying t = some (.slice 51)) (hi : P.info? 51 = some i) (hz : i.zero = some z)
  (hsize : i.size = 10) (hby : i.bytes = bytes) (hzs : z.cells.size = 10)
  (q n c : Nat) (xs : List Value) (hown : OwnsM w base (.slice (some ⟨q, 0, none⟩) n c) n xs) (j : Nat) (hj : j ≤ n) (hs : a.eval so = .slice (some ⟨q, 0, none⟩) j j)
  (A : Option Addr) (m c' : Nat) (news : List Value) (hx : a.eval x = .slice A m c') (hr : RdG w 10 A m news) (h1 : ∀ u ∈ news, u.oneCell' = true)
  (h63 : j + m ≤ maxLen) (hbytes : (j + m) * bytes ≤ 140737488355328) (hbase : base ≤ w.heap.size)
  (hK : ∀ A' c'' w', OwnsM w' base (.slice A' (j + m) c'') (j + m) (xs.take (j * 10) ++ news) → Below w.heap.size w w' → K (a.put o.dst (.slice A' (j + m) c'')) w') :
  if Region.wanted o (yielded ops a.tmps) = true then Oper.wp P o a w K Q else E := by
 have hw : Region.wanted o (yielded ops a.tmps) = true := by simp [Region.wanted, hgd]
 rw [if_pos hw]
 have hlen : (xs.take (j * 10)).length = j * 10 := by rw [List.length_take, hown.rd.1]; omega
 obtain ⟨hq, cur, hbx, hcur⟩ : base ≤ q ∧ ∃ cur, Box w q 51 cur ∧ cur.toList.take (n * 10) = xs := by
  rcases hown with h | ⟨h1, h2, g, cur, hv, hg, hx, hc⟩
  ·rcases h.2 with ⟨h', _⟩ | ⟨g, cap, cur, hv, hg, hx, _, _, _, hc⟩
   ·cases h'
   ·injection hv with hv
    injection hv with hv
    injection hv with hv
    subst hv
    exact ⟨hg, cur, hx, hc⟩
  ·injection hv with hv
   injection hv with hv
   injection hv with hv
   subst hv
   exact ⟨hg, cur, hx, hc⟩
 have hpre : OwnsM w base (.slice (some ⟨q, 0, none⟩) j j) j (xs.take (j * 10)) := .inr ⟨hlen, by omega, q, cur, rfl, hq, hbx, by rw [← hcur, List.take_take, Nat.min_eq_left (Nat.mul_le_mul_right 10 hj)]⟩
 rcases Nat.eq_zero_or_pos m with h0 | h0
 ·subst h0
  have hn : news = [] := List.eq_nil_of_length_eq_zero (by simpa using hr.1)
  subst hn
  have hrun := run_append_none (P := P) w t o.type _ i ht hi ⟨q, 0, none⟩ j j n! A c'
  unfold Oper.wp execOp
  simp only [ho, resolve, invoke, builtin, Sem.run_bind, Sem.run_pure, Result.andThen_ok, List.map_toArray, List.map_cons, List.map_nil, hs, hx, hrun]
  exact hK _ _ _ (by simpa using hpre) (Below.refl _ _)
 ·obtain ⟨cap, w', hrun, h2, h3⟩ := run_append_cut (P := P) w t o.type _ i z 10 bytes ht hi hz hsize hby hzs _ j _ hpre.rd A m c' news hr h0 h1 h63 hbytes
  unfold Oper.wp execOp
  simp only [ho, resolve, invoke, builtin, Sem.run_bind, Sem.run_pure, Result.andThen_ok, List.map_toArray, List.map_cons, List.map_nil, hs, hx, hrun]
  exact hK _ _ _ (.inl (own_base h2 hbase)) h3
theorem RW.gone {U U' : World} {base g j c' : Nat} {w : DC.Wd} {A' A0 A1 A2 A3 A4 : Option Addr} {c0 c1 c2 c3 c4 : Nat} {xs : List Value} (hj : j < w.ml.length) (hg : base ≤ g) (hbase : base ≤ U.heap.size) (hx : Box U g 28 #[.slice A0 w.ms.length c0, .slice A1 w.vs.length c1, .slice A2 w.ts.length c2, .slice A3 w.ml.length c3, .slice A4 w.ch.length c4])
  (o0 : U.ownsRow base 3 1 (.slice A0 w.ms.length c0) w.ms.length (ic w.ms)) (o1 : U.ownsRow base 59 3 (.slice A1 w.vs.length c1) w.vs.length (flat vcell w.vs))
  (o2 : U.ownsRow base 57 7 (.slice A2 w.ts.length c2) w.ts.length xs) (ht : TsRow U base xs w.ts) (o4 : U.ownsRow base 53 2 (.slice A4 w.ch.length c4) w.ch.length (flat ccell w.ch))
  (hb : Below U.heap.size U U') (o3 : OwnsM U' base (.slice A' (j + (w.ml.length - (j + 1))) c') (j + (w.ml.length - (j + 1))) ((flat mcell w.ml).take (j * 10) ++ flat mcell (w.ml.drop (j + 1)))) :
  RW (U'.setCell ⟨g, 3, none⟩ (.slice A' (j + (w.ml.length - (j + 1))) c')) base g (DC.gone w j) ∧ Below base U (U'.setCell ⟨g, 3, none⟩ (.slice A' (j + (w.ml.length - (j + 1))) c')) := by
 have hx' := hx.below hb hx.lt
 have k : Kept isW U (U'.setCell ⟨g, 3, none⟩ (.slice A' (j + (w.ml.length - (j + 1))) c')) := (Kept.of_below hb).trans (Kept.set (S := isW) hx' isW_w _)
 have k' : Kept isW U' (U'.setCell ⟨g, 3, none⟩ (.slice A' (j + (w.ml.length - (j + 1))) c')) := Kept.set (S := isW) hx' isW_w _
 have hl : (w.ml.eraseIdx j).length = j + (w.ml.length - (j + 1)) := by rw [List.length_eraseIdx, if_pos hj]; omega
 rw [flat_gone] at o3
 refine ⟨⟨A0, c0, A1, c1, A2, c2, A', c', A4, c4, xs, hg, ?_, k.own o0 (by unfold isW; decide), k.own o1 (by unfold isW; decide), k.own o2 (by unfold isW; decide), ht.kept k (by unfold isW; decide) (by unfold isW; decide), ?_, k.own o4 (by unfold isW; decide)⟩, (hb.mono hbase).setCell (p := ⟨g, 3, none⟩) hg _⟩
 ·show Box _ g 28 #[.slice A0 w.ms.length c0, .slice A1 w.vs.length c1, .slice A2 w.ts.length c2, .slice A' (w.ml.eraseIdx j).length c', .slice A4 w.ch.length c4]
  rw [hl]
  simpa using hx'.stored 3 (.slice A' (j + (w.ml.length - (j + 1))) c')
 ·show OwnsM _ base (.slice A' (w.ml.eraseIdx j).length c') (w.ml.eraseIdx j).length (flat mcell (w.ml.eraseIdx j))
  rw [hl]
  exact k'.ownM o3 (by unfold isW; decide)
def RDoRet (w : DC.Wd) (m : DC.Mv) (W : World) (e : Ending) (W' : World) : Prop :=
 ∃ v y, e = .returned (.tuple #[v, .int .i64 y]) ∧ DoIs w m y ∧ Below W.heap.size W W' ∧ ((y ≠ 0 ∧ v = zeroW) ∨ (y = 0 ∧ WIk W' v (DC.aft w m) ∧ WCap v))
end Go.Proofs.YtiiobafcgdelmaaGreat.PD
