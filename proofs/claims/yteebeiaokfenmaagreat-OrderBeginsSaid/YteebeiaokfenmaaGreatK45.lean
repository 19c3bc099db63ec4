/-
  What a group's log gave times, and its finals, as they grow. No walk.
  Package order: does. Conditions: a step that reads.
  Package order: who tells times is handed a player's steps. Conditions: a log that may be.
-/
import Derived.Test.YteebeiaokfenmaaGreatK43
import Derived.Test.YteebeiaokfenmaaGreatK55
import Derived.Deep.MidRow
namespace Go.Proofs.YteebeiaokfenmaaGreat.KP
open Go.RowKit CP TP LP
open CM (Mg Cm)
open TM (Sp)
open KM (Wt Sk)
set_option linter.unusedVariables false
set_option linter.unusedSimpArgs false
def toWt (p : Int × Mg) : Wt := ⟨p.2, p.1, false⟩
/-- a row of one's own whose elements' slices were there in world W0 -/
def KX {α : Type} (K : Kd α) (W0 w : World) (b : Nat) (T : TypeId) (v : Value) (l : List α) : Prop :=
  ∃ es : List (Ex α), es.map Ex.x = l ∧ w.ownsRow b T K.s v es.length (flat (exc K) es) ∧ ∀ e ∈ es, RowIs W0 e.A e.c (K.gs e.x)
section
variable {α : Type} {K : Kd α} {W0 w w' : World} {b : Nat} {T : TypeId} {v : Value} {l : List α}
theorem KX.kept {S : TypeId → Prop} (h : KX K W0 w b T v l) (k : Kept S w w') (hT : ¬ S T) : KX K W0 w' b T v l := by
  obtain ⟨es, h1, h2, h3⟩ := h
  exact ⟨es, h1, k.own h2 hT, h3⟩
theorem KX.below (h : KX K W0 w b T v l) (hb : Below w.heap.size w w') : KX K W0 w' b T v l := by
  obtain ⟨es, h1, h2, h3⟩ := h
  exact ⟨es, h1, own_below3 h2 hb, h3⟩
theorem KX.blk (h : KX K W0 w b T v l) {g : Nat} (hg : v.ownBlock = some g) : b ≤ g ∧ g < w.heap.size := by
  obtain ⟨es, _, h2, _⟩ := h
  obtain ⟨h3, cur, hc⟩ := own_block h2 hg
  exact ⟨h3, hc.lt⟩
theorem KX.form (h : KX K W0 w b T v l) : ∃ A c, v = .slice A l.length c ∧ l.length ≤ c ∧ c ≤ maxLen := by
  obtain ⟨es, rfl, h2, h3⟩ := h
  obtain ⟨A, c, rfl, h4, h5⟩ := own_form h2
  exact ⟨A, c, by rw [List.length_map], by rw [List.length_map]; exact h4, h5⟩
theorem KX.r {A : Option Addr} {n c : Nat} (h : KX K W0 w b T (.slice A n c) l) (hb : Below W0.heap.size W0 w) : KR K w A n c l := by
  obtain ⟨es, h1, h2, h3⟩ := h
  have hn : n = es.length := by
    obtain ⟨A', c', e, _⟩ := own_form h2
    injection e
  obtain ⟨A', c', e, h4, h5⟩ := own_form h2
  injection e with e1 e2 e3
  subst e1 e3
  rw [← hn] at h2 h4
  exact ⟨es, h1, rdg_own h2, hn.symm, h4, h5, fun e he => (h3 e he).below hb⟩
theorem KX.len {A : Option Addr} {n c : Nat} (h : KX K W0 w b T (.slice A n c) l) : n = l.length := by
  obtain ⟨_, _, e, _, _⟩ := h.form
  injection e
variable (K) in
theorem kX_nil (W0 w : World) (b : Nat) (T : TypeId) : KX K W0 w b T (.slice none 0 0) [] := ⟨[], rfl, World.ownsRow_nil _ _ _ _, fun e he => by cases he⟩
theorem wpList_append_kx {P : Program} {ops : Array Oper} {rest : List Oper} {o : Oper} {a : Act} {Q : Exit → Act → World → Prop} {w0 : World} {A9 : Option Addr} {n9 c9 : Nat} {x : α} {A : Option Addr} {c : Nat}
    (hgd : o.guard = none) (so xo : Operand) (t : TypeId) (ho : o.op = .call { callee := .builtin .append, args := #[so, xo], argTypes := #[t, t] })
    (T' : TypeId) (i : TypeInfo) (z : Value) (bytes : Nat) (ht : P.underlying t = some (.slice T)) (hi : P.info? T = some i) (hz : i.zero = some z) (hsize : i.size = K.s) (hby : i.bytes = bytes) (hzs : z.cells.size = K.s)
    (hs : a.eval so = .slice A9 n9 c9) (hko : KX K W0 w0 b T (.slice A9 n9 c9) l) (hx : a.eval xo = .slice (some ⟨w0.heap.size, 0, none⟩) 1 1) (cs : Array Value) (hcs : cs.toList = K.cel A c x)
    (hrow : RowIs W0 A c (K.gs x)) (h63 : n9 + 1 ≤ maxLen) (hbytes : (n9 + 1) * bytes ≤ 140737488355328) (hb : b ≤ w0.heap.size)
    (h : ∀ A' c' w', KX K W0 w' b T (.slice A' (n9 + 1) c') (l ++ [x]) → (w0.alloc (.cells cs T')).grownBy w' (Value.slice A9 n9 c9).ownBlock →
      ((Value.slice A' (n9 + 1) c').ownBlock = (Value.slice A9 n9 c9).ownBlock ∨ (Value.slice A' (n9 + 1) c').ownBlock = some (w0.alloc (.cells cs T')).heap.size) → wpList P ops Q rest (a.put o.dst (.slice A' (n9 + 1) c')) w') :
    wpList P ops Q (o :: rest) a (w0.alloc (.cells cs T')) := by
  have hb0 : Below w0.heap.size w0 (w0.alloc (.cells cs T')) := (Below.refl _ _).alloc (Nat.le_refl _) _
  obtain ⟨es, hl, ho1, hr⟩ := hko
  have hn : n9 = es.length := by
    obtain ⟨A', c', e, _⟩ := own_form ho1
    injection e
  rw [← hn] at ho1
  refine wpList_append_g _ hgd so xo t ho b T i z K.s bytes ht hi hz hsize hby hzs K.pos (.slice A9 n9 c9) n9 (flat (exc K) es) hs (own_below3 ho1 hb0) (some ⟨w0.heap.size, 0, none⟩) 1 1 (K.cel A c x) hx
    (rdG_box (s := K.s) (n := 1) (Box.new w0 T' cs) hcs (by rw [K.len]; omega)) (K.one _ _ _) h63 hbytes (Nat.le_trans hb hb0.size) ?_
  intro v' w' hown hgr hob
  obtain ⟨A', c', rfl, _, _⟩ := own_form hown
  refine h A' c' w' ⟨es ++ [⟨A, c, x⟩], by simp [hl], ?_, fun e he => ?_⟩ hgr hob
  · rw [flat_append, flat_one, List.length_append, ← hn]; exact hown
  · rcases List.mem_append.1 he with he | he
    · exact hr e he
    · obtain rfl := List.mem_singleton.1 he
      exact hrow
end
/-- commands, the same way -/
def CX (W0 w : World) (b : Nat) (v : Value) (l : List Cm) : Prop :=
  ∃ es : List El, es.map (fun e => e.x) = l ∧ w.ownsRow b 91 12 v es.length (ecells es) ∧ ∀ e ∈ es, RowIs W0 e.A e.c e.x.m.gs ∧ RowIs W0 e.B e.d e.x.ms
section
variable {W0 w w' : World} {b : Nat} {v : Value} {l : List Cm}
theorem CX.kept {S : TypeId → Prop} (h : CX W0 w b v l) (k : Kept S w w') (hT : ¬ S 91) : CX W0 w' b v l := by
  obtain ⟨es, h1, h2, h3⟩ := h
  exact ⟨es, h1, k.own h2 hT, h3⟩
theorem CX.below (h : CX W0 w b v l) (hb : Below w.heap.size w w') : CX W0 w' b v l := by
  obtain ⟨es, h1, h2, h3⟩ := h
  exact ⟨es, h1, own_below3 h2 hb, h3⟩
theorem CX.blk (h : CX W0 w b v l) {g : Nat} (hg : v.ownBlock = some g) : b ≤ g ∧ g < w.heap.size := by
  obtain ⟨es, _, h2, _⟩ := h
  obtain ⟨h3, cur, hc⟩ := own_block h2 hg
  exact ⟨h3, hc.lt⟩
theorem CX.form (h : CX W0 w b v l) : ∃ A c, v = .slice A l.length c ∧ l.length ≤ c ∧ c ≤ maxLen := by
  obtain ⟨es, rfl, h2, h3⟩ := h
  obtain ⟨A, c, rfl, h4, h5⟩ := own_form h2
  exact ⟨A, c, by rw [List.length_map], by rw [List.length_map]; exact h4, h5⟩
theorem CX.len {A : Option Addr} {n c : Nat} (h : CX W0 w b (.slice A n c) l) : n = l.length := by
  obtain ⟨_, _, e, _, _⟩ := h.form
  injection e
theorem cX_nil (W0 w : World) (b : Nat) : CX W0 w b (.slice none 0 0) [] := ⟨[], rfl, World.ownsRow_nil _ _ _ _, fun e he => by cases he⟩
theorem wpList_append_cx {ops : Array Oper} {rest : List Oper} {o : Oper} {a : Act} {Q : Exit → Act → World → Prop} {w0 : World} {A9 : Option Addr} {n9 c9 : Nat} {e : El}
    (hgd : o.guard = none) (so xo : Operand) (t : TypeId) (ho : o.op = .call { callee := .builtin .append, args := #[so, xo], argTypes := #[t, t] })
    (T' : TypeId) (i : TypeInfo) (z : Value) (ht : Tryz.prog.underlying t = some (.slice 91)) (hi : Tryz.prog.info? 91 = some i) (hz : i.zero = some z) (hsize : i.size = 12) (hby : i.bytes = 144) (hzs : z.cells.size = 12)
    (hs : a.eval so = .slice A9 n9 c9) (hko : CX W0 w0 b (.slice A9 n9 c9) l) (hx : a.eval xo = .slice (some ⟨w0.heap.size, 0, none⟩) 1 1) (cs : Array Value) (hcs : cs.toList = ecell e)
    (hrow : RowIs W0 e.A e.c e.x.m.gs ∧ RowIs W0 e.B e.d e.x.ms) (h63 : n9 + 1 ≤ maxLen) (hbytes : (n9 + 1) * 144 ≤ 140737488355328) (hb : b ≤ w0.heap.size)
    (h : ∀ A' c' w', CX W0 w' b (.slice A' (n9 + 1) c') (l ++ [e.x]) → (w0.alloc (.cells cs T')).grownBy w' (Value.slice A9 n9 c9).ownBlock →
      ((Value.slice A' (n9 + 1) c').ownBlock = (Value.slice A9 n9 c9).ownBlock ∨ (Value.slice A' (n9 + 1) c').ownBlock = some (w0.alloc (.cells cs T')).heap.size) → wpList Tryz.prog ops Q rest (a.put o.dst (.slice A' (n9 + 1) c')) w') :
    wpList Tryz.prog ops Q (o :: rest) a (w0.alloc (.cells cs T')) := by
  have hb0 : Below w0.heap.size w0 (w0.alloc (.cells cs T')) := (Below.refl _ _).alloc (Nat.le_refl _) _
  obtain ⟨es, hl, ho1, hr⟩ := hko
  have hn : n9 = es.length := by
    obtain ⟨A', c', e, _⟩ := own_form ho1
    injection e
  rw [← hn] at ho1
  refine wpList_append_g _ hgd so xo t ho b 91 i z 12 144 ht hi hz hsize hby hzs (by omega) (.slice A9 n9 c9) n9 (ecells es) hs (own_below3 ho1 hb0) (some ⟨w0.heap.size, 0, none⟩) 1 1 (ecell e) hx
    (rdG_box (s := 12) (n := 1) (Box.new w0 T' cs) hcs (by rw [ecell_len])) (ecell_one e) h63 hbytes (Nat.le_trans hb hb0.size) ?_
  intro v' w' hown hgr hob
  obtain ⟨A', c', rfl, _, _⟩ := own_form hown
  refine h A' c' w' ⟨es ++ [e], by simp [hl], ?_, fun e' he => ?_⟩ hgr hob
  · rw [ecells_snoc, List.length_append, ← hn]; exact hown
  · rcases List.mem_append.1 he with he | he
    · exact hr e' he
    · obtain rfl := List.mem_singleton.1 he
      exact hrow
end
end Go.Proofs.YteebeiaokfenmaaGreat.KP

namespace Go.Proofs.YteebeiaokfenmaaGreat.KP
open Go.RowKit CP TP LP
open CM (Mg Cm)
open TM (Sp)
open KM (Wt Sk)
set_option linter.unusedVariables false
set_option linter.unusedSimpArgs false
set_option maxRecDepth 100000
theorem size_st : (Tryz.prog.info? 93).map (·.size) = some 19 := by kernel_rfl
/-- a whole step, loaded -/
theorem wpList_load_step {ops : Array Oper} {rest : List Oper} {op : Oper} {a : Act} {w : World} {Q : Exit → Act → World → Prop} {g : Nat} {cs : Array Value} (hgd : op.guard = none) (x : Operand) (ho : op.op = .load 93 x)
    (hx : a.eval x = .pointer (some ⟨g, 0, none⟩)) (h : Box w g 93 cs) (hn : cs.size = 19) (hq : wpList Tryz.prog ops Q rest (a.put op.dst (.agg cs)) w) : wpList Tryz.prog ops Q (op :: rest) a w := by
  refine wpList_load_mid (P := Tryz.prog) hgd 93 x ho g 0 hx cs.toList _ (fun j v hv => by rw [h.cell, Nat.zero_add, ← hv]; simp) Tryz.underlying93 rfl (by rw [size_st, Array.length_toList, hn]) ?_
  simpa using hq
set_option maxHeartbeats 4000000 in
theorem pdoes_any (kind : Int) (A0 : Option Addr) (c0 : Nat) (B0 : Option Addr) (d0 : Nat) (x : Cm) (s1 s2 : Sk) (A5 : Option Addr) (n5 a5 : Nat) (B5 : Option Addr) (m5 b5 : Nat) (A6 : Option Addr) (n6 a6 : Nat) (B6 : Option Addr) (m6 b6 : Nat) (A7 : Option Addr) (n7 a7 : Nat) (W : World)
    (h1 : SkIs W (vsk s1.c (.slice A5 n5 a5) (.slice B5 m5 b5)) s1) (h2 : SkIs W (vsk s2.c (.slice A6 n6 a6) (.slice B6 m6 b6)) s2) :
    Calls Tryz.prog 59 #[.agg (scells A0 c0 B0 d0 x s1.c (.slice A5 n5 a5) (.slice B5 m5 b5) s2.c (.slice A6 n6 a6) (.slice B6 m6 b6) (.slice A7 n7 a7)), .int .u8 kind] W (IsB (decide (x.k = kind ∧ s1 ≠ s2)) W) := by
  have HS := Lib.hid (fun W' (hb : Below W.heap.size W W') => psame15_any _ _ s1 s2 W' (h1.below hb) (h2.below hb))
  unfold vsk at HS
  clear h1 h2
  obtain ⟨ck, ⟨ai, ag, at_, ak, ab⟩, bid, btm, bms, btp, bwh, bn⟩ := x
  unfold scells
  simp only
  obtain ⟨b, hb⟩ : ∃ b, b = decide (s1 = s2) := ⟨_, rfl⟩
  rw [← hb] at HS
  obtain ⟨r, hr⟩ : ∃ r, r = decide (ck = kind ∧ s1 ≠ s2) := ⟨_, rfl⟩
  rw [← hr]
  have HR := Lib.hid (show (ck = kind → r = !b) ∧ (ck ≠ kind → r = false) by
    subst hb hr
    refine ⟨fun h => by subst h; by_cases e : s1 = s2 <;> simp [e], fun h => by simp [h]⟩)
  clear hb hr
  obtain ⟨q0, hq0⟩ : ∃ q0, W.heap.size = q0 := ⟨_, rfl⟩
  have HB := Lib.hid (show Below W.heap.size W (W.alloc (.cells #[.int .u8 ck, .int .i64 ai, .slice A0 ag.length c0, .int .i64 at_, .string ak, .string ab, .int .i64 bid, .int .i64 btm, .slice B0 bms.length d0, .int .i64 btp, .int .i64 bwh, .int .i64 bn, .int .i64 s1.c, .slice A5 n5 a5, .slice B5 m5 b5, .int .i64 s2.c, .slice A6 n6 a6, .slice B6 m6 b6, .slice A7 n7 a7] 93)) from (Below.refl _ _).alloc (Nat.le_refl _) _)
  have Y := Lib.hid (Box.new_at (w := W) (t := 93) (cs := #[.int .u8 ck, .int .i64 ai, .slice A0 ag.length c0, .int .i64 at_, .string ak, .string ab, .int .i64 bid, .int .i64 btm, .slice B0 bms.length d0, .int .i64 btp, .int .i64 bwh, .int .i64 bn, .int .i64 s1.c, .slice A5 n5 a5, .slice B5 m5 b5, .int .i64 s2.c, .slice A6 n6 a6, .slice B6 m6 b6, .slice A7 n7 a7]) q0 hq0)
  go_enter Tryz.func59, Tryz.ntmps59
  go_upto_region 1 with (fail)
  generalize W.alloc (.cells #[.int .u8 ck, .int .i64 ai, .slice A0 ag.length c0, .int .i64 at_, .string ak, .string ab, .int .i64 bid, .int .i64 btm, .slice B0 bms.length d0, .int .i64 btp, .int .i64 bwh, .int .i64 bn, .int .i64 s1.c, .slice A5 n5 a5, .slice B5 m5 b5, .int .i64 s2.c, .slice A6 n6 a6, .slice B6 m6 b6, .slice A7 n7 a7] 93) = W1 at HB Y ⊢
  clear hq0
  have y0 := Y.out.cell 0
  have y12 := Y.out.cell 12
  have y13 := Y.out.cell 13
  have y14 := Y.out.cell 14
  have y15 := Y.out.cell 15
  have y16 := Y.out.cell 16
  have y17 := Y.out.cell 17
  simp at y0 y12 y13 y14 y15 y16 y17
  by_cases hk : ck = kind
  · have HF := Lib.hid (HR.out.1 hk)
    have hk2 : (ck == kind) = true := by simpa using hk
    clear HR
    subst hk
    go_wp2_with fail
    refine (HS.out _ HB.out).mono ?_
    rintro e w2 ⟨rfl, hb2⟩
    have HB2 := Lib.hid (bmore HB.out hb2 (Nat.le_refl _))
    clear y0 y12 y13 y14 y15 y16 y17 HS hb2
    go_wp2_with fail
    go_ret
    exact ⟨by rw [HF.out]; rfl, HB2.out⟩
  · have HF := Lib.hid (HR.out.2 hk)
    have hk2 : (ck == kind) = false := by simpa using hk
    clear HR
    go_wp2_with fail
    go_ret
    exact ⟨by rw [HF.out]; rfl, HB.out⟩
end Go.Proofs.YteebeiaokfenmaaGreat.KP

namespace Go.Proofs.YteebeiaokfenmaaGreat.KP
open Go.RowKit CP TP LP
open CM (Mg Cm)
open TM (Sp)
open KM (Wt Sk)
set_option linter.unusedVariables false
set_option linter.unusedSimpArgs false
set_option maxRecDepth 100000
theorem times_len (g : Int) : ∀ r : List Cm, (OM.play g r.reverse).2.2.length ≤ r.length
  | [] => Nat.le_refl _
  | c :: r => by
    rw [List.reverse_cons, OM.play_snoc]
    have := times_len g r
    show ((OM.play g r.reverse).2.2 ++ OM.tm1 (OM.play g r.reverse).1 (OM.one (OM.play g r.reverse).1 g c).1 c).length ≤ _
    have h1 : (OM.tm1 (OM.play g r.reverse).1 (OM.one (OM.play g r.reverse).1 g c).1 c).length ≤ 1 := by unfold OM.tm1; split <;> simp
    rw [List.length_append, List.length_cons]
    omega
theorem fins_len (g : Int) : ∀ r : List Cm, (OM.fins g r.reverse).length ≤ r.length
  | [] => Nat.le_refl _
  | c :: r => by
    rw [List.reverse_cons, OM.fins_snoc, List.length_append, List.length_cons]
    have := fins_len g r
    have h1 : (OM.fin1 (OM.play g r.reverse).1 (OM.one (OM.play g r.reverse).1 g c).1 c).length ≤ 1 := by unfold OM.fin1; split <;> simp
    omega
theorem told_few (g : Int) (l : List Cm) : (OM.play g l).2.2.length ≤ l.length ∧ (OM.fins g l).length ≤ l.length := by
  have h1 := times_len g l.reverse
  have h2 := fins_len g l.reverse
  rw [List.reverse_reverse, List.length_reverse] at h1 h2
  exact ⟨h1, h2⟩
/-- what tell's own variable holds behind k commands: it lies at p -/
structure RTe (g : Int) (cs : List Cm) (W0 : World) (b p : Nat) (k : Nat) (X : Nat → Prop) (W : World) : Prop where
  x : ∃ (C : Option Addr) (i j : Nat) (D : Option Addr) (u v : Nat), Box W p 75 #[.slice C i j, .map none, .slice D u v] ∧ KX KW W0 W b 78 (.slice C i j) ((OM.play g (cs.take k)).2.2.map toWt) ∧ CX W0 W b (.slice D u v) (OM.fins g (cs.take k)) ∧
    X = fun q => q = p ∨ (Value.slice C i j).ownBlock = some q ∨ (Value.slice D u v).ownBlock = some q
  k : k ≤ cs.length
section
variable {g : Int} {cs : List Cm} {W0 W W' : World} {b p k : Nat} {c : Cm} {C : Option Addr} {i j : Nat} {D : Option Addr} {u v : Nat}
theorem tm_next (h : cs[k]? = some c) (hg : 0 ≤ g ∧ g < 4) (hcs : ∀ c ∈ cs, CM.may c) (hp : (KM.putF (stA g cs k) g c).2.2 = true) :
    (OM.play g (cs.take (k + 1))).2.2 = (OM.play g (cs.take k)).2.2 ++ (if decide (c.k = 1 ∧ stA g cs k ≠ (KM.putF (stA g cs k) g c).1) = true then [((KM.putF (stA g cs k) g c).1.c, c.m)] else []) ∧
    OM.fins g (cs.take (k + 1)) = OM.fins g (cs.take k) ++ (if decide (c.k = 2 ∧ stA g cs k ≠ (KM.putF (stA g cs k) g c).1) = true then [c] else []) := by
  have hI := OM.inv (l := cs.take k) hg fun c h => hcs c (List.mem_of_mem_take h)
  have hm := OM.tm1_is hI.m hg (hcs c (List.mem_of_getElem? h))
  have ho := one_ok hp
  unfold stA at *
  rw [ho] at hm
  rw [List.take_add_one, h]
  have e : cs.take k ++ (some c).toList = cs.take k ++ [c] := rfl
  rw [e, OM.times_snoc, OM.fins_snoc, OM.play_snoc]
  unfold OM.nx
  simp only [ho]
  rw [hm]
  unfold OM.fin1
  have hiff : ∀ a b : Sk, (b ≠ a) = (a ≠ b) := fun a b => by rw [ne_comm]
  simp only [decide_eq_true_eq, hiff (OM.play g (cs.take k)).1]
  exact ⟨by first | rfl | trivial, by first | rfl | trivial⟩
theorem rTe_same {X : Nat → Prop} (h : RTe g cs W0 b p k X W) (hc : cs[k]? = some c) (h1 : (OM.play g (cs.take (k + 1))).2.2 = (OM.play g (cs.take k)).2.2) (h2 : OM.fins g (cs.take (k + 1)) = OM.fins g (cs.take k)) (hb : Below W.heap.size W W') : RTe g cs W0 b p (k + 1) X W' := by
  obtain ⟨⟨C, i, j, D, u, v, k1, k2, k3, rfl⟩, _⟩ := h
  exact ⟨⟨C, i, j, D, u, v, k1.below hb k1.lt, by rw [h1]; exact k2.below hb, by rw [h2]; exact k3.below hb, rfl⟩, (List.getElem?_eq_some_iff.1 hc).1⟩
/-- one more that has a time: Wa the world at the append -/
theorem rTe_b {Wa W3 : World} {G : Option Addr} {x y : Nat} (hc : cs[k]? = some c) (k1 : Box W p 75 #[.slice C i j, .map none, .slice D u v]) (k3 : CX W0 W b (.slice D u v) (OM.fins g (cs.take k)))
    (k2 : KX KW W0 W b 78 (.slice C i j) ((OM.play g (cs.take k)).2.2.map toWt)) (hb : Below W.heap.size W Wa) (h1 : KX KW W0 W3 b 78 (.slice G x y) ((OM.play g (cs.take (k + 1))).2.2.map toWt)) (h2 : OM.fins g (cs.take (k + 1)) = OM.fins g (cs.take k))
    (hgr : Wa.grownBy W3 (Value.slice C i j).ownBlock) (hob : (Value.slice G x y).ownBlock = (Value.slice C i j).ownBlock ∨ (Value.slice G x y).ownBlock = some Wa.heap.size) :
    ∃ X', RTe g cs W0 b p (k + 1) X' (W3.setCell ⟨p, 0, none⟩ (.slice G x y)) ∧ KpX (fun q => q = p ∨ (Value.slice C i j).ownBlock = some q ∨ (Value.slice D u v).ownBlock = some q) W (W3.setCell ⟨p, 0, none⟩ (.slice G x y)) ∧
      ∀ q, X' q → (q = p ∨ (Value.slice C i j).ownBlock = some q ∨ (Value.slice D u v).ownBlock = some q) ∨ W.heap.size ≤ q := by
  have a1 := k1.below hb k1.lt
  have a2 := k2.below hb
  have a3 := k3.below hb
  have q2 : Kept (fun e => e = 78) Wa W3 := by
    obtain ⟨es, _, ho, _⟩ := a2
    exact Kept.grown ho rfl hgr
  have b1 := q2.box _ _ _ (by decide) a1
  have q3 : Kept (fun e => e = 75) W3 (W3.setCell ⟨p, 0, none⟩ (.slice G x y)) := Kept.set (S := fun e => e = 75) b1 rfl _
  refine ⟨_, ⟨⟨G, x, y, D, u, v, ?_, h1.kept q3 (by decide), ?_, rfl⟩, (List.getElem?_eq_some_iff.1 hc).1⟩, ⟨?_, ?_, ?_, ?_, fun q hq hn => ?_⟩, fun q hq => ?_⟩
  · have := b1.stored 0 (.slice G x y)
    simpa using this
  · rw [h2]; exact (a3.kept q2 (by decide)).kept q3 (by decide)
  · exact (q3.os.trans q2.os).trans hb.os
  · exact (q3.tape.trans q2.tape).trans hb.tape
  · exact (q3.output.trans q2.output).trans hb.output
  · exact Nat.le_trans (Nat.le_trans hb.size q2.size) q3.size
  · have n1 : q ≠ p := fun k => hn (.inl k)
    have n3 : some q ≠ (Value.slice C i j).ownBlock := fun k => hn (.inr (.inl k.symm))
    rw [Below.heap_setCell _ ⟨p, 0, none⟩ _ q n1, hgr.block q (Nat.lt_of_lt_of_le hq hb.size) n3]
    exact hb.block q hq
  · rcases hq with k | k | k
    · exact .inl (.inl k)
    · rcases hob with z | z
      · exact .inl (.inr (.inl (z.symm.trans k)))
      · rw [z] at k; injection k with k; exact .inr (by have := hb.size; omega)
    · exact .inl (.inr (.inr k))
/-- one more final -/
theorem rTe_f {Wa W3 : World} {G : Option Addr} {x y : Nat} (hc : cs[k]? = some c) (k1 : Box W p 75 #[.slice C i j, .map none, .slice D u v]) (k3 : CX W0 W b (.slice D u v) (OM.fins g (cs.take k)))
    (k2 : KX KW W0 W b 78 (.slice C i j) ((OM.play g (cs.take k)).2.2.map toWt)) (hb : Below W.heap.size W Wa) (h1 : CX W0 W3 b (.slice G x y) (OM.fins g (cs.take (k + 1)))) (h2 : (OM.play g (cs.take (k + 1))).2.2 = (OM.play g (cs.take k)).2.2)
    (hgr : Wa.grownBy W3 (Value.slice D u v).ownBlock) (hob : (Value.slice G x y).ownBlock = (Value.slice D u v).ownBlock ∨ (Value.slice G x y).ownBlock = some Wa.heap.size) :
    ∃ X', RTe g cs W0 b p (k + 1) X' (W3.setCell ⟨p, 2, none⟩ (.slice G x y)) ∧ KpX (fun q => q = p ∨ (Value.slice C i j).ownBlock = some q ∨ (Value.slice D u v).ownBlock = some q) W (W3.setCell ⟨p, 2, none⟩ (.slice G x y)) ∧
      ∀ q, X' q → (q = p ∨ (Value.slice C i j).ownBlock = some q ∨ (Value.slice D u v).ownBlock = some q) ∨ W.heap.size ≤ q := by
  have a1 := k1.below hb k1.lt
  have a2 := k2.below hb
  have a3 := k3.below hb
  have q2 : Kept (fun e => e = 91) Wa W3 := by
    obtain ⟨es, _, ho, _⟩ := a3
    exact Kept.grown ho rfl hgr
  have b1 := q2.box _ _ _ (by decide) a1
  have q3 : Kept (fun e => e = 75) W3 (W3.setCell ⟨p, 2, none⟩ (.slice G x y)) := Kept.set (S := fun e => e = 75) b1 rfl _
  refine ⟨_, ⟨⟨C, i, j, G, x, y, ?_, ?_, h1.kept q3 (by decide), rfl⟩, (List.getElem?_eq_some_iff.1 hc).1⟩, ⟨?_, ?_, ?_, ?_, fun q hq hn => ?_⟩, fun q hq => ?_⟩
  · have := b1.stored 2 (.slice G x y)
    simpa using this
  · rw [h2]; exact (a2.kept q2 (by decide)).kept q3 (by decide)
  · exact (q3.os.trans q2.os).trans hb.os
  · exact (q3.tape.trans q2.tape).trans hb.tape
  · exact (q3.output.trans q2.output).trans hb.output
  · exact Nat.le_trans (Nat.le_trans hb.size q2.size) q3.size
  · have n1 : q ≠ p := fun k => hn (.inl k)
    have n3 : some q ≠ (Value.slice D u v).ownBlock := fun k => hn (.inr (.inr k.symm))
    rw [Below.heap_setCell _ ⟨p, 2, none⟩ _ q n1, hgr.block q (Nat.lt_of_lt_of_le hq hb.size) n3]
    exact hb.block q hq
  · rcases hq with k | k | k
    · exact .inl (.inl k)
    · exact .inl (.inr (.inl k))
    · rcases hob with z | z
      · exact .inl (.inr (.inr (z.symm.trans k)))
      · rw [z] at k; injection k with k; exact .inr (by have := hb.size; omega)
end
end Go.Proofs.YteebeiaokfenmaaGreat.KP
