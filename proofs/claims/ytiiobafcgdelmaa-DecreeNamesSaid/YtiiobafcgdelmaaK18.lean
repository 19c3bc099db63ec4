/-
  Words for worlds in memory: rows, attempts and votes in them, what a store leaves. No walk.
-/
import Derived.Test.YtiiobafcgdelmaaK05
import Derived.Test.YtiiobafcgdelmaaK06
import Derived.Test.YtiiobafcgdelmaaK17
import Derived.Test.YtiiobafcgdelmaaK08
import Derived.Test.YtiiobafcgdelmaaK09
import Derived.Deep.QuietTactic
import Derived.BigQuiet
import Derived.Deep.RegionLaw
import Derived.Deep.DeepCutAuto
import Derived.Shelf.RegionOpenPlain
import Derived.Deep.MidRow
namespace Go.Proofs.Ytiiobafcgdelmaa
open Go.RowKit Go.Shelf
set_option linter.unusedVariables false
set_option linter.unusedSimpArgs false

theorem step_append_h {P : Program} {ops : Array Oper} {o : Oper} {a : Act} {w : World} {K : Act → World → Prop} {Q : Exit → Act → World → Prop} {E : Prop}
    (hgd : o.guard = none) (so x : Operand) (t : TypeId)
    (ho : o.op = .call { callee := .builtin .append, args := #[so, x], argTypes := #[t, t] })
    (base : Nat) (e : TypeId) (i : TypeInfo) (z : Value) (s bytes : Nat) (ht : P.underlying t = some (.slice e)) (hi : P.info? e = some i) (hz : i.zero = some z)
    (hsize : i.size = s) (hby : i.bytes = bytes) (hzs : z.cells.size = s) (hsz : 0 < s)
    (v : Value) (n : Nat) (xs : List Value) (hs : a.eval so = v) (hown : w.ownsRow base e s v n xs)
    (A : Option Addr) (m c : Nat) (news : List Value) (hx : a.eval x = .slice A m c) (hr : RdG w s A m news) (h1 : ∀ u ∈ news, u.oneCell' = true)
    (h63 : n + m ≤ maxLen) (hbytes : (n + m) * bytes ≤ 140737488355328) (hbase : base ≤ w.heap.size)
    (hK : ∀ v' w', w'.ownsRow base e s v' (n + m) (xs ++ news) → w.grownBy w' v.ownBlock → (v'.ownBlock = v.ownBlock ∨ v'.ownBlock = some w.heap.size) → K (a.put o.dst v') w') :
    if Region.wanted o (yielded ops a.tmps) = true then Oper.wp P o a w K Q else E := by
  have hw : Region.wanted o (yielded ops a.tmps) = true := by simp [Region.wanted, hgd]
  rw [if_pos hw]
  obtain ⟨v', w', hrun, h2, h3, h4⟩ := run_append_g (P := P) w base t o.type e i z s bytes ht hi hz hsize hby hzs hsz v n xs hown A m c news hr h1 h63 hbytes hbase
  unfold Oper.wp execOp
  simp only [ho, resolve, invoke, builtin, Sem.run_bind, Sem.run_pure, Result.andThen_ok, List.map_toArray, List.map_cons, List.map_nil, hs, hx, hrun]
  exact hK _ _ h2 h3 h4
theorem info_mail : (Try.prog.info? 40).map (fun i => (i.zero, i.size, i.bytes)) = some (some (.agg #[.int .i64 0, .int .i64 0, .int .u8 0, .int .i64 0, .int .i64 0, .int .i64 0, .int .i64 0, .string ⟨#[]⟩, .int .i64 0, .int .i64 0]), 10, 88) := by kernel_rfl
theorem info_choice : (Try.prog.info? 43).map (fun i => (i.zero, i.size, i.bytes)) = some (some (.agg #[.int .i64 0, .string ⟨#[]⟩]), 2, 24) := by kernel_rfl
theorem others_snoc (ms : List Int) (m : DC.Ml) {j : Nat} {y : Int} (h : ms[j]? = some y) : DC.others (ms.take (j + 1)) m = DC.others (ms.take j) m ++ (if y = m.f then [] else [{ m with t := y }]) := by
  obtain ⟨hj, rfl⟩ := List.getElem?_eq_some_iff.1 h
  unfold DC.others
  rw [List.take_succ_eq_append_getElem hj, List.filter_append, List.map_append]
  congr 1
  rw [List.filter_cons]
  split
  · rename_i e
    rw [if_neg (by simpa using e)]
    rfl
  · rename_i e
    rw [if_pos (by simpa using e)]
    rfl
theorem Box.five {w : World} {g : Nat} {t : TypeId} {a b c d e : Value} (h : Box w g t #[a, b, c, d, e]) :
    (w.cell? ⟨g, 0, none⟩ = some a ∧ w.cell? ⟨g, 1, none⟩ = some b ∧ w.cell? ⟨g, 2, none⟩ = some c ∧ w.cell? ⟨g, 3, none⟩ = some d ∧ w.cell? ⟨g, 4, none⟩ = some e) ∧
    (w.frozen? ⟨g, 0, none⟩ = false ∧ w.frozen? ⟨g, 1, none⟩ = false ∧ w.frozen? ⟨g, 2, none⟩ = false ∧ w.frozen? ⟨g, 3, none⟩ = false ∧ w.frozen? ⟨g, 4, none⟩ = false) :=
  ⟨⟨h.cell 0, h.cell 1, h.cell 2, h.cell 3, h.cell 4⟩, h.frozen 0, h.frozen 1, h.frozen 2, h.frozen 3, h.frozen 4⟩
/-- ten cells -/
theorem Box.ten {w : World} {g : Nat} {t : TypeId} {a b c d e f i j k l : Value} (h : Box w g t #[a, b, c, d, e, f, i, j, k, l]) :
    w.cell? ⟨g, 0, none⟩ = some a ∧ w.cell? ⟨g, 1, none⟩ = some b ∧ w.cell? ⟨g, 2, none⟩ = some c ∧ w.cell? ⟨g, 3, none⟩ = some d ∧ w.cell? ⟨g, 4, none⟩ = some e ∧ w.cell? ⟨g, 5, none⟩ = some f ∧ w.cell? ⟨g, 6, none⟩ = some i ∧ w.cell? ⟨g, 7, none⟩ = some j ∧ w.cell? ⟨g, 8, none⟩ = some k ∧ w.cell? ⟨g, 9, none⟩ = some l :=
  ⟨h.cell 0, h.cell 1, h.cell 2, h.cell 3, h.cell 4, h.cell 5, h.cell 6, h.cell 7, h.cell 8, h.cell 9⟩
theorem mcell_ten (m : DC.Ml) : ∀ a ∈ [m], (mcell a).length = 10 := fun _ _ => rfl
theorem own_some {w : World} {base s n c : Nat} {e : TypeId} {A : Option Addr} {xs : List Value} (h : w.ownsRow base e s (.slice A n c) n xs) (hn : 0 < n) : ∃ q, A = some ⟨q, 0, none⟩ ∧ base ≤ q ∧ ∀ j u, xs[j]? = some u → w.cell? ⟨q, j, none⟩ = some u := by
  obtain ⟨g, cap, hv, hb, hlt⟩ := h.form hn
  have hA : A = some ⟨g, 0, none⟩ := by injection hv
  subst hA
  refine ⟨g, rfl, hb, fun j u hu => ?_⟩
  have := h.cells (g := g) rfl j u hu
  rwa [show (⟨g, 0, none⟩ : Addr).add j = ⟨g, j, none⟩ by unfold Addr.add; split <;> simp_all] at this
/-- the cells of an attempt in its row -/
theorem try_cells {W : World} {base c n i : Nat} {A : Option Addr} {xs : List Value} {ts : List AM.At} {t : AM.At} (h : W.ownsRow base 49 7 (.slice A n c) n xs) (ht : TsRow W base xs ts) (hi : ts[i]? = some t) (hn : n = ts.length) :
    ∃ q x y z, A = some ⟨q, 0, none⟩ ∧ base ≤ q ∧ AtOwn W base (.agg #[.int .u8 t.ph, .int .i64 t.ba, x, .string t.wi, .string t.va, y, z]) t ∧
      W.cell? ⟨q, i * 7, none⟩ = some (.int .u8 t.ph) ∧ W.cell? ⟨q, i * 7 + 1, none⟩ = some (.int .i64 t.ba) ∧ W.cell? ⟨q, i * 7 + 2, none⟩ = some x ∧ W.cell? ⟨q, i * 7 + 3, none⟩ = some (.string t.wi) ∧ W.cell? ⟨q, i * 7 + 4, none⟩ = some (.string t.va) ∧ W.cell? ⟨q, i * 7 + 5, none⟩ = some y ∧ W.cell? ⟨q, i * 7 + 6, none⟩ = some z := by
  have hlt : i < ts.length := (List.getElem?_eq_some_iff.1 hi).1
  obtain ⟨q, hA, hb, hc⟩ := own_some h (by omega)
  obtain ⟨v, ho, hx⟩ := ht.get hi
  obtain ⟨x, y, z, rfl, o1, o2, o3⟩ := ho
  refine ⟨q, x, y, z, hA, hb, ⟨x, y, z, rfl, o1, o2, o3⟩, ?_⟩
  exact ⟨hc _ _ (hx 0 (by omega)), hc _ _ (hx 1 (by omega)), hc _ _ (hx 2 (by omega)), hc _ _ (hx 3 (by omega)), hc _ _ (hx 4 (by omega)), hc _ _ (hx 5 (by omega)), hc _ _ (hx 6 (by omega))⟩
def isA (e : TypeId) : Prop := e = 49
def isV (e : TypeId) : Prop := e = 53
def putAt7 (w : World) (g o : Nat) (a b c d e f i : Value) : World :=
  ((((((w.setCell ⟨g, o, none⟩ a).setCell ⟨g, o + 1, none⟩ b).setCell ⟨g, o + 2, none⟩ c).setCell ⟨g, o + 3, none⟩ d).setCell ⟨g, o + 4, none⟩ e).setCell ⟨g, o + 5, none⟩ f).setCell ⟨g, o + 6, none⟩ i
def putAt3 (w : World) (g o : Nat) (a b c : Value) : World := ((w.setCell ⟨g, o, none⟩ a).setCell ⟨g, o + 1, none⟩ b).setCell ⟨g, o + 2, none⟩ c
theorem kept_own {W : World} {S : TypeId → Prop} {base s n c q : Nat} {e : TypeId} {xs : List Value} (h : W.ownsRow base e s (.slice (some ⟨q, 0, none⟩) n c) n xs) (hn : 0 < n) (he : S e) (j : Nat) (u : Value) : Kept S W (W.setCell ⟨q, j, none⟩ u) := by
  obtain ⟨_, cur, hx⟩ := own_block h (show (Value.slice (some ⟨q, 0, none⟩) n c).ownBlock = some q from rfl)
  exact Kept.set hx he u
theorem own_at7 {W : World} {base n c q o : Nat} {e : TypeId} {S : TypeId → Prop} {xs : List Value} (h : W.ownsRow base e 7 (.slice (some ⟨q, 0, none⟩) n c) n xs) (hn : 0 < n) (he : S e) (a b c' d e' f i : Value) :
    (putAt7 W q o a b c' d e' f i).ownsRow base e 7 (.slice (some ⟨q, 0, none⟩) n c) n (puts xs o [a, b, c', d, e', f, i]) ∧ Kept S W (putAt7 W q o a b c' d e' f i) := by
  have h1 := (h.stored o a).1
  have h2 := (h1.stored (o + 1) b).1
  have h3 := (h2.stored (o + 2) c').1
  have h4 := (h3.stored (o + 3) d).1
  have h5 := (h4.stored (o + 4) e').1
  have h6 := (h5.stored (o + 5) f).1
  have h7 := (h6.stored (o + 6) i).1
  exact ⟨h7, ((((((kept_own h hn he o a).trans (kept_own h1 hn he _ b)).trans (kept_own h2 hn he _ c')).trans (kept_own h3 hn he _ d)).trans (kept_own h4 hn he _ e')).trans (kept_own h5 hn he _ f)).trans (kept_own h6 hn he _ i)⟩
theorem own_at3 {W : World} {base n c q o : Nat} {e : TypeId} {S : TypeId → Prop} {xs : List Value} (h : W.ownsRow base e 3 (.slice (some ⟨q, 0, none⟩) n c) n xs) (hn : 0 < n) (he : S e) (a b c' : Value) :
    (putAt3 W q o a b c').ownsRow base e 3 (.slice (some ⟨q, 0, none⟩) n c) n (puts xs o [a, b, c']) ∧ Kept S W (putAt3 W q o a b c') := by
  have h1 := (h.stored o a).1
  have h2 := (h1.stored (o + 1) b).1
  have h3 := (h2.stored (o + 2) c').1
  exact ⟨h3, ((kept_own h hn he o a).trans (kept_own h1 hn he _ b)).trans (kept_own h2 hn he _ c')⟩
theorem below_at7 {B g : Nat} {u w : World} (h : Below B u w) (hg : B ≤ g) (o : Nat) (a b c d e f i : Value) : Below B u (putAt7 w g o a b c d e f i) :=
  ((((((h.setCell (p := ⟨g, o, none⟩) hg a).setCell (p := ⟨g, o + 1, none⟩) hg b).setCell (p := ⟨g, o + 2, none⟩) hg c).setCell (p := ⟨g, o + 3, none⟩) hg d).setCell (p := ⟨g, o + 4, none⟩) hg e).setCell (p := ⟨g, o + 5, none⟩) hg f).setCell (p := ⟨g, o + 6, none⟩) hg i
theorem below_at3 {B g : Nat} {u w : World} (h : Below B u w) (hg : B ≤ g) (o : Nat) (a b c : Value) : Below B u (putAt3 w g o a b c) :=
  ((h.setCell (p := ⟨g, o, none⟩) hg a).setCell (p := ⟨g, o + 1, none⟩) hg b).setCell (p := ⟨g, o + 2, none⟩) hg c
/-- the cells of a vote in its row -/
theorem vote_cells {W : World} {base c n i : Nat} {A : Option Addr} {vs : List DC.Vt} {v : DC.Vt} (h : W.ownsRow base 53 3 (.slice A n c) n (flat vcell vs)) (hi : vs[i]? = some v) (hn : n = vs.length) :
    ∃ q, A = some ⟨q, 0, none⟩ ∧ base ≤ q ∧ W.cell? ⟨q, i * 3, none⟩ = some (.int .i64 v.p) ∧ W.cell? ⟨q, i * 3 + 1, none⟩ = some (.int .i64 v.b) ∧ W.cell? ⟨q, i * 3 + 2, none⟩ = some (.string v.v) := by
  have hlt : i < vs.length := (List.getElem?_eq_some_iff.1 hi).1
  obtain ⟨q, hA, hb, hc⟩ := own_some h (by omega)
  have hg := flat_get (f := vcell) (s := 3) (fun _ _ => rfl) hi
  exact ⟨q, hA, hb, hc _ _ (hg 0 (by omega)), hc _ _ (hg 1 (by omega)), hc _ _ (hg 2 (by omega))⟩
/-- an attempt of a world that may be fits -/
theorem fit_mayT {ms : List Int} {n : Int} {t : AM.At} (h : DC.MayT ms n t) : Fit t := by
  by_cases h0 : t.ph = 0
  · have := h.1
    unfold AM.may at this
    rw [if_pos h0] at this
    have e : t = AM.zero := by simpa using this
    rw [e]; exact fit_zero
  · obtain ⟨p1, p3, hok, _⟩ := AM.may_pos h.1 h0
    obtain ⟨hg, hw, hps⟩ := DC.may_good h.1 h0
    obtain ⟨l1, l2, l3⟩ := may_lens h.1
    unfold BM.good at hg
    refine ⟨by omega, by omega, by omega, by omega, by unfold maxLen; omega, by omega, by omega, by omega, fun p hp => ?_⟩
    have ho := List.all_eq_true.1 hps p hp
    have hs := DC.okP_size ho
    have hb := DC.okP_bal ho (by unfold BM.good; omega)
    exact ⟨by omega, by omega, by unfold maxLen; omega⟩
/-- an answer of a vote and an error, in a variable -/
def VoteMid (wr : World) (x y : Int) (t : ByteArray) (e : Int) (u v : Value) (wx : World) : Prop :=
  ∃ g, u = .pointer (some ⟨g, 0, none⟩) ∧ v = .int .i64 e ∧ Below wr.heap.size wr wx ∧ wr.heap.size ≤ g ∧ Box wx g 53 #[.int .i64 x, .int .i64 y, .string t]
theorem vm_1 {wr w4 : World} {x y e : Int} {t : ByteArray} (hb : Below wr.drew.heap.size wr.drew w4) :
    Below wr.heap.size wr w4 ∧ VoteMid wr x y t e (.pointer (some ⟨w4.heap.size, 0, none⟩)) (.int .i64 e) (w4.alloc (.cells #[.int .i64 x, .int .i64 y, .string t] 53)) := by
  have h : Below wr.heap.size wr w4 := bmore ((Below.refl _ _).drew) hb (Nat.le_refl _)
  exact ⟨h, _, rfl, rfl, h.alloc h.size _, h.size, Box.new _ _ _⟩
theorem vm_2 {wr w4 : World} {x y e : Int} {t : ByteArray} {z0 z1 z2 : Value} (hb : Below ((wr.alloc (.cells #[z0, z1, z2] 53)).drew).heap.size ((wr.alloc (.cells #[z0, z1, z2] 53)).drew) w4) :
    Below wr.heap.size wr w4 ∧ Box w4 wr.heap.size 53 #[z0, z1, z2] ∧ VoteMid wr x y t e (.pointer (some ⟨wr.heap.size, 0, none⟩)) (.int .i64 e) (((w4.setCell ⟨wr.heap.size, 0, none⟩ (.int .i64 x)).setCell ⟨wr.heap.size, 1, none⟩ (.int .i64 y)).setCell ⟨wr.heap.size, 2, none⟩ (.string t)) := by
  have h : Below wr.heap.size wr w4 := bmore (((Below.refl _ _).alloc (Nat.le_refl _) _).drew) hb (Nat.le_refl _)
  have hlt : wr.heap.size < ((wr.alloc (.cells #[z0, z1, z2] 53)).drew).heap.size := by show wr.heap.size < (wr.alloc (.cells #[z0, z1, z2] 53)).heap.size; simp
  have hx : Box w4 wr.heap.size 53 #[z0, z1, z2] := ((Box.new wr 53 #[z0, z1, z2]).drew).below hb hlt
  exact ⟨h, hx, _, rfl, rfl, below_put3 h (Nat.le_refl _) .., Nat.le_refl _, hx.put3 ..⟩
theorem step_store_mid {P : Program} {ops : Array Oper} {o : Oper} {a : Act} {w : World} {K : Act → World → Prop} {Q : Exit → Act → World → Prop} {E : Prop} (hgd : o.guard = none) (ty : TypeId) (x y : Operand) (ho : o.op = .store ty x y)
    (b off : Nat) (cells : Array Value) (hx : a.eval x = .pointer (some ⟨b, off, none⟩)) (hy : a.eval y = .agg cells)
    (ht : w.there b off cells.size) (hi : (P.info? ty).map (·.size) = some cells.size) (h1 : cells.all (·.oneCell') = true)
    (h : K (a.put o.dst undef) (w.setCells b off cells.toList)) : if Region.wanted o (yielded ops a.tmps) = true then Oper.wp P o a w K Q else E := by
  have hw : Region.wanted o (yielded ops a.tmps) = true := by simp [Region.wanted, hgd]
  rw [if_pos hw]
  exact wp_store_mid ty x y ho b off cells hx hy ht hi h1 h
theorem there_own {W : World} {base s n c q o k : Nat} {e : TypeId} {xs : List Value} (h : W.ownsRow base e s (.slice (some ⟨q, 0, none⟩) n c) n xs) (hk : o + k ≤ n * s) : W.there q o k := by
  intro j hj
  obtain ⟨_, cur, hc⟩ := own_block h (show (Value.slice (some ⟨q, 0, none⟩) n c).ownBlock = some q from rfl)
  have hl := h.1
  have hn : 0 < n := by
    rcases Nat.eq_zero_or_pos n with h0 | h0
    · subst h0; omega
    · exact h0
  obtain ⟨q', hA, _, hx⟩ := own_some h hn
  injection hA with hA
  injection hA with hA
  subst hA
  refine ⟨?_, hc.frozen _⟩
  rw [hx (o + j) _ (List.getElem?_eq_getElem (by omega))]
  rfl
/-- a variable of an attempt, beside the world -/
def TryVar (wx : World) (base gM : Nat) (a : AM.At) (A : Option Addr) (c : Nat) (D : Option Addr) (q : Nat) (C : Option Addr) (f : Nat) : Prop :=
  Box wx gM 49 #[.int .u8 a.ph, .int .i64 a.ba, .slice A a.ms.length c, .string a.wi, .string a.va, .slice D a.ps.length q, .slice C a.ac.length f] ∧
  AtOwn wx base (.agg #[.int .u8 a.ph, .int .i64 a.ba, .slice A a.ms.length c, .string a.wi, .string a.va, .slice D a.ps.length q, .slice C a.ac.length f]) a

theorem row_ne {W : World} {base q n c gM s : Nat} {e : TypeId} {xs : List Value} {cs : Array Value} (h : W.ownsRow base e s (.slice (some ⟨q, 0, none⟩) n c) n xs) (hn : 1 < n) (hb : Box W gM e cs) (hs : 0 < s) (hc : cs.size = s) : gM ≠ q := by
  intro e'
  subst e'
  rcases h.2 with ⟨h', _⟩ | ⟨g', cap', cur, h', _, hg, hnc, _, hcs, _⟩
  · cases h'
  · simp only [Value.slice.injEq, Option.some.injEq, Addr.mk.injEq, and_true, true_and] at h'
    obtain ⟨rfl, rfl⟩ := h'
    rw [Box] at hb
    rw [hg] at hb
    injection hb with hb
    injection hb with hb _
    subst hb
    have h2 : 2 * s ≤ n * s := Nat.mul_le_mul_right s (by omega)
    have h3 := Nat.mul_le_mul_right s hnc
    omega
theorem box_at7 {w : World} {g q o : Nat} {t : TypeId} {cs : Array Value} (h : Box w g t cs) (hg : g ≠ q) (a b c d e f i : Value) : Box (putAt7 w q o a b c d e f i) g t cs :=
  ((((((h.far (p := ⟨q, o, none⟩) hg a).far (p := ⟨q, o + 1, none⟩) hg b).far (p := ⟨q, o + 2, none⟩) hg c).far (p := ⟨q, o + 3, none⟩) hg d).far (p := ⟨q, o + 4, none⟩) hg e).far (p := ⟨q, o + 5, none⟩) hg f).far (p := ⟨q, o + 6, none⟩) hg i
section
variable {W wx wy : World} {base g : Nat} {w : DC.Wd} {gM : Nat} {a : AM.At} {A D C : Option Addr} {c q f : Nat}
theorem TryVar.kept {S : TypeId → Prop} (h : TryVar wx base gM a A c D q C f) (k : Kept S wx wy) (h1 : ¬ S 3) (h2 : ¬ S 79) (h3 : ¬ S 49) : TryVar wy base gM a A c D q C f := ⟨k.box _ _ _ h3 h.1, k.at_ h.2 h1 h2⟩
theorem below_more {B : Nat} {x y z : World} (h : Below B x y) (k : Below B y z) : Below B x z := h.trans k
end
theorem box_at3 {w : World} {g q o : Nat} {t : TypeId} {cs : Array Value} (h : Box w g t cs) (hg : g ≠ q) (a b c : Value) : Box (putAt3 w q o a b c) g t cs :=
  ((h.far (p := ⟨q, o, none⟩) hg a).far (p := ⟨q, o + 1, none⟩) hg b).far (p := ⟨q, o + 2, none⟩) hg c
theorem getT_set {w : DC.Wd} {i : Nat} {t : AM.At} {vs : List DC.Vt} {ml : List DC.Ml} {ch : List DC.Ch} (hi : i < w.ts.length) : DC.getT ⟨w.ms, vs, w.ts.set i t, ml, ch⟩ (i : Int) = t := by
  unfold DC.getT
  rw [Int.toNat_natCast, List.getElem?_set_self hi]; rfl

end Go.Proofs.Ytiiobafcgdelmaa
