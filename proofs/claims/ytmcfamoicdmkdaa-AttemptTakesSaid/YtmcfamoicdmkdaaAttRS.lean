/-
  Words for the document's Promised and Accepted: what stands behind Twin and the variable that holds its answer; an append as a step of a region that draws. No function.
-/
import Derived.Test.YtmcfamoicdmkdaaAttRT
import Derived.Test.YtmcfamoicdmkdaaAttMay
import Derived.Test.YtmcfamoicdmkdaaAttFar
import Derived.Deep.RegionLaw
namespace Go.Proofs.Ytmcfamoicdmkdaa
open Go.RowKit
set_option linter.unusedVariables false
set_option linter.unusedSimpArgs false

/-- the rows of promises and of accepted nodes are no longer than their arrays -/
def AtCap (v : Value) : Prop := ∀ c0 c1 A n c c3 c4 B m d C k f, v = .agg #[c0, c1, .slice A n c, c3, c4, .slice B m d, .slice C k f] → (m ≤ d ∧ d ≤ maxLen) ∧ (k ≤ f ∧ f ≤ maxLen)

/-- all that was there in wt is as it was; then a variable that holds T -/
def AftSt (wt u : World) (T : Array Value) : Prop := Below wt.heap.size wt u ∧ Box u wt.heap.size 25 T
section
variable {wt u u' : World} {T : Array Value}
theorem AftSt.start (wt : World) (T : Array Value) : AftSt wt (wt.alloc (.cells T 25)) T := ⟨(Below.refl _ _).alloc (Nat.le_refl _) _, Box.new _ _ _⟩
theorem AftSt.below (h : AftSt wt u T) (hb : Below u.heap.size u u') : AftSt wt u' T := ⟨bmore h.1 hb (Nat.le_refl _), h.2.below hb h.2.lt⟩
theorem AftSt.drewN (h : AftSt wt u T) (q : Nat) : AftSt wt (u.drewN q) T := h.below (below_drewN (Below.refl _ _) q)
theorem AftSt.alloc (h : AftSt wt u T) (o : Obj) : AftSt wt (u.alloc o) T := h.below ((Below.refl _ _).alloc (Nat.le_refl _) o)
theorem AftSt.grown {r : Option Nat} (h : AftSt wt u T) (hg : u.grownBy u' r) (hr : ∀ g, r = some g → wt.heap.size < g) : AftSt wt u' T :=
  ⟨h.1.grown hg h.1.size (fun g e => Nat.le_of_lt (hr g e)), h.2.grown hg (fun e => by have := hr _ e.symm; omega)⟩
theorem AftSt.set (h : AftSt wt u T) (i : Nat) (x : Value) : AftSt wt (u.setCell ⟨wt.heap.size, i, none⟩ x) (T.setIfInBounds i x) := ⟨h.1.setCell (Nat.le_refl _) x, h.2.stored i x⟩
theorem AftSt.row {s n : Nat} {e : TypeId} {v : Value} {xs : List Value} (h : u.ownsRow (wt.heap.size + 1) e s v n xs) (g : Nat) (hg : v.ownBlock = some g) : wt.heap.size < g := (own_block h hg).1
theorem AftSt.room (h : AftSt wt u T) : wt.heap.size + 1 ≤ u.heap.size := h.2.lt
end

theorem step_append_g {P : Program} {ops : Array Oper} {o : Oper} {a : Act} {w : World} {K : Act → World → Prop} {Q : Exit → Act → World → Prop} {E : Prop}
    (hgd : o.guard = none) (so x : Operand) (t : TypeId)
    (ho : o.op = .call { callee := .builtin .append, args := #[so, x], argTypes := #[t, t] })
    (base : Nat) (e : TypeId) (i : TypeInfo) (z : Value) (s bytes : Nat) (ht : P.underlying t = some (.slice e)) (hi : P.info? e = some i) (hz : i.zero = some z)
    (hsize : i.size = s) (hby : i.bytes = bytes) (hzs : z.cells.size = s) (hsz : 0 < s)
    (v : Value) (n : Nat) (xs : List Value) (hs : a.eval so = v) (hown : w.ownsRow base e s v n xs)
    (A : Option Addr) (m c : Nat) (news : List Value) (hx : a.eval x = .slice A m c) (hr : RdG w s A m news) (h1 : ∀ u ∈ news, u.oneCell' = true)
    (h63 : n + m ≤ maxLen) (hbytes : (n + m) * bytes ≤ 140737488355328) (hbase : base ≤ w.heap.size)
    (hK : ∀ v' w', w'.ownsRow base e s v' (n + m) (xs ++ news) → w.grownBy w' v.ownBlock → K (a.put o.dst v') w') :
    if Region.wanted o (yielded ops a.tmps) = true then Oper.wp P o a w K Q else E := by
  have hw : Region.wanted o (yielded ops a.tmps) = true := by simp [Region.wanted, hgd]
  rw [if_pos hw]
  obtain ⟨v', w', hrun, h2, h3, h4⟩ := run_append_g (P := P) w base t o.type e i z s bytes ht hi hz hsize hby hzs hsz v n xs hown A m c news hr h1 h63 hbytes hbase
  unfold Oper.wp execOp
  simp only [ho, resolve, invoke, builtin, Sem.run_bind, Sem.run_pure, Result.andThen_ok, List.map_toArray, List.map_cons, List.map_nil, hs, hx, hrun]
  exact hK _ _ h2 h3

theorem ic_split (l : List Int) (x : Int) : ic (l.take (pos l x)) ++ [.int .i64 x] ++ ic (l.drop (pos l x)) = ic (AM.insI l x) := by
  rw [insI_pos]; simp [ic]
theorem pp_split (l : List AM.Pr) (p : AM.Pr) : pp (l.take (pos (AM.nodes l) p.n)) ++ [.int .i64 p.n, .int .i64 p.b, .string p.v] ++ pp (l.drop (pos (AM.nodes l) p.n)) = pp (AM.insP l p) := by
  rw [insP_pos]; simp [pp]
theorem pos_test {ns : List Int} {x y : Int} {j : Nat} (hj : j ≤ pos ns x) (hy : ns[j]? = some y) : decide (y < x) = decide (j < pos ns x) := by
  obtain ⟨h1, h2⟩ := pos_cut ns x
  by_cases h : j < pos ns x
  · have := h1 j y h hy
    simp [h, this]
  · obtain rfl : pos ns x = j := by omega
    have := h2 y hy
    simp; omega
end Go.Proofs.Ytmcfamoicdmkdaa
