/-
  One element appended onto a row of one's own of structs that hold one slice of ints. No walk, no program.
-/
import Derived.Test.YtnpgjcapekopnaaGreatSkOwn
namespace Go.Proofs.YtnpgjcapekopnaaGreat.KP
open Go.RowKit CP TP
set_option linter.unusedVariables false
set_option linter.unusedSimpArgs false

section
variable {α : Type} {K : Kd α}
theorem KO.slice {w : World} {b : Nat} {T : TypeId} {A : Option Addr} {n c : Nat} {l : List α} (h : KO K w b T (.slice A n c) l) : n = l.length ∧ n ≤ c ∧ c ≤ maxLen ∧ KG K w b A n c l := by
  obtain ⟨A', c', e, hg⟩ := h.g
  injection e with e1 e2 e3
  subst e1 e2 e3
  have := hg.r.le
  exact ⟨rfl, this.1, this.2, hg⟩
/-- the block of such a row lies there -/
theorem KO.blk {w : World} {b : Nat} {T : TypeId} {v : Value} {l : List α} (h : KO K w b T v l) {g : Nat} (hg : v.ownBlock = some g) : b ≤ g ∧ g < w.heap.size := by
  obtain ⟨es, _, h2, _⟩ := h
  obtain ⟨h3, cur, hc⟩ := own_block h2 hg
  exact ⟨h3, hc.lt⟩
theorem wpList_append_ko {P : Program} {ops : Array Oper} {rest : List Oper} {o : Oper} {a : Act} {Q : Exit → Act → World → Prop} {w0 : World} {b : Nat} {T : TypeId} {A9 : Option Addr} {n9 c9 : Nat} {l : List α} {x : α} {A : Option Addr} {c : Nat}
    (hgd : o.guard = none) (so xo : Operand) (t : TypeId) (ho : o.op = .call { callee := .builtin .append, args := #[so, xo], argTypes := #[t, t] })
    (T' : TypeId) (i : TypeInfo) (z : Value) (bytes : Nat) (ht : P.underlying t = some (.slice T)) (hi : P.info? T = some i) (hz : i.zero = some z) (hsize : i.size = K.s) (hby : i.bytes = bytes) (hzs : z.cells.size = K.s)
    (hs : a.eval so = .slice A9 n9 c9) (hko : KO K w0 b T (.slice A9 n9 c9) l) (hx : a.eval xo = .slice (some ⟨w0.heap.size, 0, none⟩) 1 1) (cs : Array Value) (hcs : cs.toList = K.cel A c x)
    (hrow : RowGe w0 b A c (K.gs x)) (hne : ∀ ad, A = some ad → 0 < (K.gs x).length → (Value.slice A9 n9 c9).ownBlock ≠ some ad.block) (h63 : n9 + 1 ≤ maxLen) (hbytes : (n9 + 1) * bytes ≤ 140737488355328) (hb : b ≤ w0.heap.size)
    (h : ∀ A' c' w', KO K w' b T (.slice A' (n9 + 1) c') (l ++ [x]) → (w0.alloc (.cells cs T')).grownBy w' (Value.slice A9 n9 c9).ownBlock →
      ((Value.slice A' (n9 + 1) c').ownBlock = (Value.slice A9 n9 c9).ownBlock ∨ (Value.slice A' (n9 + 1) c').ownBlock = some (w0.alloc (.cells cs T')).heap.size) → wpList P ops Q rest (a.put o.dst (.slice A' (n9 + 1) c')) w') :
    wpList P ops Q (o :: rest) a (w0.alloc (.cells cs T')) := by
  have hb0 : Below w0.heap.size w0 (w0.alloc (.cells cs T')) := (Below.refl _ _).alloc (Nat.le_refl _) _
  obtain ⟨es, hl, ho1, hr⟩ := hko
  have hn : n9 = es.length := by
    obtain ⟨A', c', e, _⟩ := own_form ho1
    injection e
  rw [← hn] at ho1
  refine wpList_append_g _ hgd so xo t ho b T i z K.s bytes ht hi hz hsize hby hzs K.pos (.slice A9 n9 c9) n9 (flat (exc K) es) hs (own_below3 ho1 hb0) (some ⟨w0.heap.size, 0, none⟩) 1 1 (K.cel A c x) hx
    (rdG_box (s := K.s) (n := 1) (Box.new w0 T' cs) hcs (by rw [K.len]; omega)) (K.one _ _ _) h63 hbytes (Nat.le_trans hb hb0.size) ?_
  intro v' w' hown hgr hob
  obtain ⟨A', c', rfl, _, _⟩ := own_form hown
  refine h A' c' w' (kO_next (K := K) (w := w0.alloc (.cells cs T')) es hl (fun e he => ⟨(hr e he).1.below hb0, (hr e he).2⟩) (hrow.below hb0) hne hgr (by rw [← hn]; exact hown) hob) hgr hob
end
theorem filter_take {α : Type} {l : List α} {k : Nat} {x : α} {p : α → Bool} (h : l[k]? = some x) : (l.take (k + 1)).filter p = (l.take k).filter p ++ (if p x then [x] else []) := by
  rw [List.take_add_one, h, List.filter_append]
  congr 1
  simp [List.filter_cons]
theorem erase_take {α : Type} {l : List α} {k j : Nat} {x : α} (h : l[k]? = some x) : (l.take (k + 1)).eraseIdx j = if k = j then (l.take k).eraseIdx j else (l.take k).eraseIdx j ++ [x] := by
  have hkl := (List.getElem?_eq_some_iff.1 h).1
  have hlen : (l.take k).length = k := by rw [List.length_take]; omega
  rw [List.take_add_one, h]
  show (l.take k ++ [x]).eraseIdx j = _
  split
  · rename_i e
    subst e
    rw [List.eraseIdx_append_of_length_le (by omega), hlen]
    simp
    rw [List.eraseIdx_of_length_le (by omega)]
  · rename_i hne
    rcases Nat.lt_or_ge j k with hj | hj
    · rw [List.eraseIdx_append_of_lt_length (by omega)]
    · rw [List.eraseIdx_of_length_le (by rw [List.length_append, hlen]; simp; omega), List.eraseIdx_of_length_le (by omega)]
end Go.Proofs.YtnpgjcapekopnaaGreat.KP
