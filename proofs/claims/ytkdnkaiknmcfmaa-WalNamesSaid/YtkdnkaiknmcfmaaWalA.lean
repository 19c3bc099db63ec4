/-
  What slices.Clone of writes and the inner function 'clone' of package wal make: the same disk in memory of its own. Conditions: the disk's slices read as bytes and writes; it may be.
-/
import Derived.Test.YtkdnkaiknmcfmaaDiskS
import Derived.Deep.RegionHeld3
import Derived.Deep.DeepCutAuto
namespace Go.Proofs.Ytkdnkaiknmcfmaa
open Go.RowKit
set_option linter.unusedVariables false

/-- append of a slice of elements of s cells onto a row of the call's own -/
theorem wpList_append_rdS {P : Program} (w : World) {ops : Array Oper} {rest : List Oper} {o : Oper} {a : Act} {Q : Exit → Act → World → Prop} (hgd : o.guard = none) (so x : Operand) (t : TypeId)
    (ho : o.op = .call { callee := .builtin .append, args := #[so, x], argTypes := #[t, t] })
    (base : Nat) (e : TypeId) (i : TypeInfo) (z : Value) (s bytes : Nat) (ht : P.underlying t = some (.slice e)) (hi : P.info? e = some i) (hz : i.zero = some z)
    (hsize : i.size = s) (hby : i.bytes = bytes) (hzs : z.cells.size = s) (hs0 : 0 < s)
    (v : Value) (n : Nat) (xs : List Value) (hs : a.eval so = v) (hown : w.ownsRow base e s v n xs)
    (ad : Addr) (m c : Nat) (news : List Value) (hx : a.eval x = .slice (some ad) m c) (hr : RdS w s (some ad) m news) (h1 : ∀ u ∈ news, u.oneCell' = true)
    (h63 : n + m ≤ maxLen) (hbytes : (n + m) * bytes ≤ 140737488355328) (hbase : base ≤ w.heap.size)
    (h : ∀ v' w', w'.ownsRow base e s v' (n + m) (xs ++ news) → w.grownBy w' v.ownBlock → wpList P ops Q rest (a.put o.dst v') w') : wpList P ops Q (o :: rest) a w := by
  refine wpList_plain hgd fun K hK => ?_
  have hcells : ∀ j u, news[j]? = some u → w.cell? (ad.add j) = some u := by
    intro j u hu
    rcases Nat.eq_zero_or_pos m with h0 | h0
    · subst h0
      have hn : news = [] := List.eq_nil_of_length_eq_zero (by simpa using hr.1)
      subst hn
      simp at hu
    · obtain ⟨ad', h, _, hc⟩ := hr.2 h0
      injection h with h
      subst h
      exact hc j u hu
  obtain ⟨v', w', hrun, h2, h3, _, _⟩ := run_append_own_at (P := P) w base t o.type e i z s bytes ht hi hz hsize hby hzs hs0 v n xs hown ad m c news hr.1 hcells h1 h63 hbytes hbase
  unfold Oper.wp execOp
  simp only [ho, resolve, invoke, builtin, Sem.run_bind, Sem.run_pure, Result.andThen_ok, List.map_toArray, List.map_cons, List.map_nil, hs, hx, hrun]
  exact hK _ _ (h v' w' h2 h3)

def ClonesPost (w : World) (m : Nat) (l : List (Bool × Value)) (e : Ending) (w' : World) : Prop := ∃ A c, e = .returned (.slice A m c) ∧ w'.ownsRow w.heap.size 37 2 (.slice A m c) m (pc l) ∧ Below w.heap.size w w'

set_option maxHeartbeats 1000000 in
theorem clones_any (B : Option Addr) (m d : Nat) (l : List (Bool × Value)) (w : World) (HR : Hid (RdS w 2 B m (pc l))) (H1 : Hid (∀ u ∈ pc l, u.oneCell' = true)) (hm : m ≤ 4000000) :
    Calls Try.prog 43 #[.slice B m d] w (ClonesPost w m l) := by
  obtain ⟨i0, hi, hz0, hz1, hz2⟩ := info_parts info_put
  rcases B with _ | ad
  · have hn0 : m = 0 := by
      rcases Nat.eq_zero_or_pos m with h0 | h0
      · exact h0
      · obtain ⟨ad, h, _⟩ := HR.out.2 h0; cases h
    subst hn0
    have hl0 : pc l = [] := List.eq_nil_of_length_eq_zero (by simpa using HR.out.1)
    have hfin : ClonesPost w 0 l (.returned (.slice none 0 0)) w := ⟨_, _, rfl, by rw [hl0]; exact World.ownsRow_nil _ _ _ _, Below.refl _ _⟩
    have HF := Lib.hid hfin; clear hfin hl0
    have hnil : ∀ W, (binOp .eql 23 (.slice none 0 d) (.slice none 0 0)).run Try.prog W = .ok (.bool true) W := fun W => Lib.run_eql_slice_nil W _ _ _ _ _ _ _ Try.underlying23
    go_enter Try.func43, Try.ntmps43
    go_wp2_with fail
    go_ret
    exact HF.out
  · have hown0 : (w.alloc (.cells #[] 37)).ownsRow w.heap.size 37 2 (.slice (some ⟨w.heap.size, 0, none⟩) 0 0) 0 [] := World.ownsRow_made w #[] 0 (Nat.le_refl _) (by unfold maxLen; omega) (by simp)
    have hr0 : RdS (w.alloc (.cells #[] 37)) 2 (some ad) m (pc l) := HR.out.alloc _
    have HO := Lib.hid hown0
    have HR0 := Lib.hid hr0
    clear hown0 hr0
    have hnil : ∀ W, (binOp .eql 23 (.slice (some ad) m d) (.slice none 0 0)).run Try.prog W = .ok (.bool false) W := fun W => Lib.run_eql_slice_nil W _ _ _ _ _ _ _ Try.underlying23
    go_enter Try.func43, Try.ntmps43
    go_wp2_with (at_builtin; refine wpList_append_rdS _ rfl _ _ 23 rfl w.heap.size 37 i0 _ 2 32 Try.underlying23 hi hz0 hz1 hz2 rfl (by omega) _ _ _ rfl HO.out ad m d (pc l) rfl HR0.out H1.out (by unfold maxLen; omega) (by omega) (by simp) ?_; intro v2 w2 hown2 hg2)
    go_ret
    simp only [Nat.zero_add, List.nil_append] at hown2
    obtain ⟨A', c', rfl, _, _⟩ := own_slice2 hown2
    exact ⟨_, _, rfl, hown2, ((Below.refl _ _).alloc (Nat.le_refl _) _).grown hg2 (by simp) (own_block_ge HO.out)⟩

/-- the loop's word: the writes before k have been copied -/
def CloRel (w : World) (b : List UInt8) (ps' : List DM.Wr) (A5 : Option Addr) (n c5 : Nat) (B5 : Option Addr) (N cap k : Nat) (wr : World) : Prop :=
  Below w.heap.size w wr ∧ Box wr w.heap.size 25 #[.slice A5 n c5, .slice B5 N cap] ∧ Box wr (w.heap.size + 1) 25 #[.slice none 0 0, .slice none 0 0] ∧
  wr.ownsRow (w.heap.size + 1 + 1) 5 1 (.slice A5 n c5) n (bc b) ∧
  ∃ l : List (Bool × Value), wr.ownsRow (w.heap.size + 1 + 1) 37 2 (.slice B5 N cap) N (pc l) ∧ l.length = ps'.length ∧
    ∀ (i : Nat) (p : Bool × Value) (q : DM.Wr), l[i]? = some p → ps'[i]? = some q → p.1 = q.1 ∧ (i < k → wr.ownsRow (w.heap.size + 1 + 1) 5 1 p.2 q.2.length (bc q.2)) ∧ (k ≤ i → ByIs w p.2 q.2)
theorem CloRel.at_ {w wr : World} {b : List UInt8} {ps' : List DM.Wr} {A5 B5 : Option Addr} {n c5 N cap k : Nat} (h : CloRel w b ps' A5 n c5 B5 N cap k wr) (hN : ps'.length = N) (hk : k < N) :
    ∃ gw s d Ai ci, B5 = some ⟨gw, 0, none⟩ ∧ ps'[k]? = some (s, d) ∧ wr.cell? ⟨gw, k * 2, none⟩ = some (.bool s) ∧ wr.cell? ⟨gw, k * 2 + 1, none⟩ = some (.slice Ai d.length ci) ∧ wr.frozen? ⟨gw, k * 2 + 1, none⟩ = false ∧ Rd w Ai d.length (bc d) ∧ w.heap.size + 1 + 1 ≤ gw ∧ gw < wr.heap.size := by
  obtain ⟨h1, h2, h3, h4, l, h5, h6, h7⟩ := h
  obtain ⟨gw, cap', hv, _, _⟩ := h5.form (by omega)
  have hB : B5 = some ⟨gw, 0, none⟩ := by injection hv
  subst hB
  have hkl : k < l.length := by omega
  have hkp : k < ps'.length := by omega
  obtain ⟨g1, _, g2⟩ := h7 k _ _ (List.getElem?_eq_getElem hkl) (List.getElem?_eq_getElem hkp)
  obtain ⟨Ai, ci, e, _, _, hr⟩ := g2 (Nat.le_refl _)
  obtain ⟨hb1, cs, hb2⟩ := own_box h5
  refine ⟨gw, ps'[k].1, ps'[k].2, Ai, ci, rfl, List.getElem?_eq_getElem hkp, ?_, ?_, h5.frozenAt _, hr, hb1, hb2.lt⟩
  · rw [h5.cellAt _ (by omega), pc_even l k _ (List.getElem?_eq_getElem hkl), g1]
  · rw [h5.cellAt _ (by omega), pc_odd l k _ (List.getElem?_eq_getElem hkl), e]
theorem cloRel_next {w wr w7 : World} {b d : List UInt8} {ps' : List DM.Wr} {A5 A6 : Option Addr} {n c5 gw N cap k y c6 base' : Nat} {s : Bool} (h : CloRel w b ps' A5 n c5 (some ⟨gw, 0, none⟩) N cap k wr) (hN : ps'.length = N) (hk : ps'[k]? = some (s, d)) (hb : Below wr.heap.size wr w7)
    (ho : w7.ownsRow base' 5 1 (.slice A6 y c6) y (bc d)) (hbase : wr.heap.size ≤ base') (hy : d.length = y) : CloRel w b ps' A5 n c5 (some ⟨gw, 0, none⟩) N cap (k + 1) (w7.setCell ⟨gw, k * 2 + 1, none⟩ (.slice A6 y c6)) := by
  obtain ⟨h1, h2, h3, h4, l, h5, h6, h7⟩ := h
  obtain ⟨hkp, he⟩ := List.getElem?_eq_some_iff.1 hk
  have hkl : k < l.length := by omega
  have h5' := own_below2 h5 hb
  obtain ⟨hb1, cs, hb2⟩ := own_box h5'
  have hlt3 := h3.lt
  have hbs : w.heap.size + 1 + 1 ≤ base' := by omega
  have g0 : l[k]? = some (l[k].1, l[k].2) := List.getElem?_eq_getElem hkl
  refine ⟨(bmore h1 hb (Nat.le_refl _)).setCell (p := ⟨gw, _, none⟩) (by show w.heap.size ≤ gw; omega) _, (h2.below hb h2.lt).far (p := ⟨gw, _, none⟩) (by show w.heap.size ≠ gw; omega) _, (h3.below hb h3.lt).far (p := ⟨gw, _, none⟩) (by show w.heap.size + 1 ≠ gw; omega) _,
    own_far (own_below2 h4 hb) hb2 (by decide), l.set k (l[k].1, .slice A6 y c6), ?_, by simpa using h6, fun i p q hp hq => ?_⟩
  · rw [← pc_set l k _ _ _ g0]
    exact (h5'.stored (k * 2 + 1) _).1
  · by_cases hik : i = k
    · subst hik
      rw [List.getElem?_set_self hkl] at hp
      injection hp with hp
      subst hp
      rw [hk] at hq
      injection hq with hq
      subst hq
      obtain ⟨g1, _, _⟩ := h7 i _ _ g0 hk
      refine ⟨g1, fun _ => ?_, fun hc => absurd hc (by omega)⟩
      show (w7.setCell _ _).ownsRow _ _ _ (.slice A6 y c6) d.length (bc d)
      rw [hy]
      exact own_far (own_mono ho hbs) hb2 (by decide)
    · rw [List.getElem?_set_ne (by omega)] at hp
      obtain ⟨g1, g2, g3⟩ := h7 i p q hp hq
      exact ⟨g1, fun hi => own_far (own_below2 (g2 (by omega)) hb) hb2 (by decide), fun hi => g3 (by omega)⟩
theorem cloRel_end {w wr : World} {b : List UInt8} {ps' : List DM.Wr} {A5 B5 : Option Addr} {n c5 N cap : Nat} (h : CloRel w b ps' A5 n c5 B5 N cap N wr) (hN : ps'.length = N) (hb : b.length = n) :
    DiskOwn wr (w.heap.size + 1 + 1) 5 37 (.agg #[.slice A5 n c5, .slice B5 N cap]) b ps' := by
  obtain ⟨h1, h2, h3, h4, l, h5, h6, h7⟩ := h
  subst hN
  subst hb
  refine ⟨_, _, l, rfl, h4, h5, h6, fun i p q hp hq => ?_⟩
  obtain ⟨g1, g2, _⟩ := h7 i p q hp hq
  exact ⟨g1, g2 (List.getElem?_eq_some_iff.1 hq).1⟩
theorem cloRel_start {w w1 w2 : World} {b : List UInt8} {ps' : List DM.Wr} {l : List (Bool × Value)} {A A1 B B2 : Option Addr} {n c c1 N cap d base1 : Nat} (h1 : Below w.heap.size w w1) (h2 : Box w1 w.heap.size 25 #[.slice A n c, .slice B N d]) (h3 : Box w1 (w.heap.size + 1) 25 #[.slice none 0 0, .slice none 0 0])
    (ho : w1.ownsRow base1 5 1 (.slice A1 n c1) n (bc b)) (hbase : w.heap.size + 1 + 1 ≤ base1) (hp : PairsAre w l ps')
    (hb : Below (w1.setCell ⟨w.heap.size, 0, none⟩ (.slice A1 n c1)).heap.size (w1.setCell ⟨w.heap.size, 0, none⟩ (.slice A1 n c1)) w2)
    (hw : w2.ownsRow (w1.setCell ⟨w.heap.size, 0, none⟩ (.slice A1 n c1)).heap.size 37 2 (.slice B2 N cap) N (pc l)) :
    CloRel w b ps' A1 n c1 B2 N cap 0 (w2.setCell ⟨w.heap.size, 1, none⟩ (.slice B2 N cap)) := by
  have hlt := h3.lt
  have hb1 : Box (w1.setCell ⟨w.heap.size, 0, none⟩ (.slice A1 n c1)) w.heap.size 25 #[.slice A1 n c1, .slice B N d] := by
    have := h2.stored 0 (.slice A1 n c1)
    simpa using this
  have hb3 : Box (w1.setCell ⟨w.heap.size, 0, none⟩ (.slice A1 n c1)) (w.heap.size + 1) 25 #[.slice none 0 0, .slice none 0 0] := h3.far (p := ⟨w.heap.size, 0, none⟩) (by show w.heap.size + 1 ≠ w.heap.size; omega) _
  have hlt1 := hb3.lt
  have ho1 := ownsRow_setCell_below (own_mono ho hbase) (a := ⟨w.heap.size, 0, none⟩) (by show w.heap.size < _; omega) (.slice A1 n c1)
  have hB1 : Below w.heap.size w (w1.setCell ⟨w.heap.size, 0, none⟩ (.slice A1 n c1)) := h1.setCell (p := ⟨w.heap.size, 0, none⟩) (Nat.le_refl _) _
  generalize w1.setCell ⟨w.heap.size, 0, none⟩ (.slice A1 n c1) = wx at *
  have hb5 : Box (w2.setCell ⟨w.heap.size, 1, none⟩ (.slice B2 N cap)) w.heap.size 25 #[.slice A1 n c1, .slice B2 N cap] := by
    have := (hb1.below hb hb1.lt).stored 1 (.slice B2 N cap)
    simpa using this
  refine ⟨(bmore hB1 hb (Nat.le_refl _)).setCell (p := ⟨w.heap.size, 1, none⟩) (Nat.le_refl _) _, hb5, (hb3.below hb hb3.lt).far (p := ⟨w.heap.size, 1, none⟩) (by show w.heap.size + 1 ≠ w.heap.size; omega) _,
    ownsRow_setCell_below (own_below2 ho1 hb) (a := ⟨w.heap.size, 1, none⟩) (by show w.heap.size < _; omega) _, l, ownsRow_setCell_below (own_mono hw (by omega)) (a := ⟨w.heap.size, 1, none⟩) (by show w.heap.size < _; omega) _, hp.1, fun i p q h7 h8 => ?_⟩
  obtain ⟨g1, g2⟩ := hp.2 i p q h7 h8
  exact ⟨g1, fun hi => absurd hi (by omega), fun _ => g2⟩

/-- an answer of a disk of b and ps in memory of its own, n and m its lengths -/
def DAns1 (w : World) (b : List UInt8) (ps : List DM.Wr) (n m : Nat) (e : Ending) (w' : World) : Prop :=
  ∃ A c B d, e = .returned (.agg #[.slice A n c, .slice B m d]) ∧ DiskOwn w' w.heap.size 5 37 (.agg #[.slice A n c, .slice B m d]) b ps ∧ Below w.heap.size w w'

set_option maxRecDepth 100000 in
set_option maxHeartbeats 4000000 in
theorem walClone_any (v : Value) (b : List UInt8) (ps : List DM.Wr) (n0 m0 : Nat) (w : World) (HV : Hid (DiskIs w v b ps)) (HM : Hid (DM.may b ps)) (HN0 : Hid (b.length = n0)) (HM0 : Hid (ps.length = m0)) :
    Calls Try.prog 29 #[v] w (DAns1 w b ps n0 m0) := by
  obtain ⟨A, n, c, B, m, d, rfl, h1, h2, h3, h4, h5, h6⟩ := HV.out
  obtain rfl : n = n0 := by have := h5.1; rw [bc_length] at this; rw [← HN0.out, this]
  obtain rfl : m = m0 := by rw [← HM0.out, h6.1]
  have hm1024 : m ≤ 1024 := by have := HM.out.1; rw [HM0.out] at this; exact this
  have hn20 : n ≤ 1048576 := by have := DM.fits_zero HM.out.2; rw [HN0.out] at this; exact this
  have hsmall : ∀ (k : Nat) (s : Bool) (d : List UInt8), ps[k]? = some (s, d) → d.length ≤ 1048576 := by
    intro k s d hk
    obtain ⟨hlt, he⟩ := List.getElem?_eq_some_iff.1 hk
    have := HM.out.2 (k + 1) (by omega)
    rw [DM.behind_take _ _ _ hlt, DM.step_length, he] at this
    unfold DM.more at this
    simp only at this
    omega
  have HSm := Lib.hid hsmall
  have hb0 : Below w.heap.size w ((w.alloc (.cells #[.slice A n c, .slice B m d] 25)).alloc (.cells #[.slice none 0 0, .slice none 0 0] 25)) := (((Below.refl _ _).alloc (Nat.le_refl _) _).alloc (by simp) _)
  have x0 : Box ((w.alloc (.cells #[.slice A n c, .slice B m d] 25)).alloc (.cells #[.slice none 0 0, .slice none 0 0] 25)) w.heap.size 25 #[.slice A n c, .slice B m d] := (Box.new _ _ _).alloc _
  have y0 : Box ((w.alloc (.cells #[.slice A n c, .slice B m d] 25)).alloc (.cells #[.slice none 0 0, .slice none 0 0] 25)) (w.heap.size + 1) 25 #[.slice none 0 0, .slice none 0 0] := Box.new_at _ (by simp)
  obtain ⟨hpl, l, hl1, hl2⟩ := h6
  have HPL := Lib.hid hpl
  have HL0 := Lib.hid hl1
  have HL2 := Lib.hid hl2
  have HR := Lib.hid (h5.below hb0)
  have HB0 := Lib.hid hb0
  have X := Lib.hid x0
  have Y := Lib.hid y0
  have hd : d ≤ 9223372036854775807 := by unfold maxLen at h4; omega
  clear h2 h4 h5 hpl hl1 hl2 hb0 x0 y0 HV hsmall HM
  go_enter Try.func29, Try.ntmps29
  go_upto_region 1 with (fail)
  generalize (w.alloc (.cells #[.slice A n c, .slice B m d] 25)).alloc (.cells #[.slice none 0 0, .slice none 0 0] 25) = w0 at HR HB0 X Y ⊢
  have k0 : w0.cell? ⟨w.heap.size, 0, none⟩ = some (.slice A n c) := X.out.cell 0
  go_wp2_with fail
  refine (clone_sl A n c b _ HR (by omega)).mono ?_
  rintro e w1 ⟨A1, c1, rfl, hown1, hb1⟩
  clear k0
  have hx1 := X.out.below hb1 X.out.lt
  have hy1 := Y.out.below hb1 Y.out.lt
  have hB1 := bmore HB0.out hb1 (Nat.le_refl _)
  have hbase1 : w.heap.size + 1 + 1 ≤ w0.heap.size := by have := Y.out.lt; omega
  have hx2 : Box (w1.setCell ⟨w.heap.size, 0, none⟩ (.slice A1 n c1)) w.heap.size 25 #[.slice A1 n c1, .slice B m d] := by
    have := hx1.stored 0 (.slice A1 n c1)
    simpa using this
  have hl2 : RdS (w1.setCell ⟨w.heap.size, 0, none⟩ (.slice A1 n c1)) 2 B m (pc l) := HL0.out.below (hB1.setCell (p := ⟨w.heap.size, 0, none⟩) (Nat.le_refl _) _)
  have k0 : w1.cell? ⟨w.heap.size, 0, none⟩ = some (.slice A n c) := hx1.cell 0
  have k1 : w1.cell? ⟨w.heap.size, 1, none⟩ = some (.slice B m d) := hx1.cell 1
  have f0 : w1.frozen? ⟨w.heap.size, 0, none⟩ = false := hx1.frozen 0
  have hstart := fun B2 cap w2 => @cloRel_start w w1 w2 b ps l A A1 B B2 n c c1 m cap d w0.heap.size hB1 hx1 hy1 hown1 hbase1 HL2.out
  have HSt0 := Lib.hid hstart
  have HL1 := Lib.hid hl2
  have X2 := Lib.hid hx2
  clear hstart hx1 hy1 hown1 hb1 hl2 hx2 hB1 hbase1 X Y HB0 HR
  go_upto_region 2 with (fail)
  clear k0 k1 f0
  generalize w1.setCell ⟨w.heap.size, 0, none⟩ (.slice A1 n c1) = w3 at HSt0 HL1 X2 ⊢
  have k1 : w3.cell? ⟨w.heap.size, 1, none⟩ = some (.slice B m d) := X2.out.cell 1
  go_wp2_with fail
  refine (clones_any B m d l _ HL1 (Lib.hid HL2.out.one) (by omega)).mono ?_
  rintro e w2 ⟨B2, cap, rfl, hown2, hb2⟩
  have hst := HSt0.out B2 cap w2 hb2 hown2
  have hx4 := X2.out.below hb2 X2.out.lt
  have q0 : w2.cell? ⟨w.heap.size, 0, none⟩ = some (.slice A1 n c1) := hx4.cell 0
  have q1 : w2.cell? ⟨w.heap.size, 1, none⟩ = some (.slice B m d) := hx4.cell 1
  have f1 : w2.frozen? ⟨w.heap.size, 1, none⟩ = false := hx4.frozen 1
  have HSt := Lib.hid hst
  clear hst hx4 hown2 hb2 HL1 X2 HSt0 k1
  go_upto_region 3 with (fail)
  clear q0 q1 f1
  generalize w2.setCell ⟨w.heap.size, 1, none⟩ (.slice B2 m cap) = w6 at HSt ⊢
  have k1 : w6.cell? ⟨w.heap.size, 1, none⟩ = some (.slice B2 m cap) := HSt.out.2.1.cell 1
  go_wp2_with fail
  clear k1
  go_loopw [16] (fun i wr => ∃ k : Nat, k ≤ m ∧ i = .int .i64 k ∧ CloRel w b ps A1 n c1 B2 m cap k wr) (fun i _ => m - (intOf i).toNat)
  case atStart => exact ⟨0, by omega, rfl, HSt.out⟩
  case round =>
    clear HSt
    obtain ⟨k, hk, rfl, hrel⟩ := hrel
    by_cases hlt : k < m
    · obtain ⟨gw, s1, d1, Ai, ci, rfl, hps1, z0, z1, z2, hrd1, hgw1, hgw2⟩ := hrel.at_ HPL.out hlt
      have hd1 := HSm.out _ _ _ hps1
      obtain ⟨y, hy⟩ : ∃ y, d1.length = y := ⟨_, rfl⟩
      rw [hy] at z1 hd1 hrd1
      have HY := Lib.hid hy
      have HPs1 := Lib.hid hps1
      have HRel := Lib.hid hrel
      have hrw := hrd1.below hrel.1
      have HRw := Lib.hid hrw
      have q1 : wr.cell? ⟨w.heap.size, 1, none⟩ = some (.slice (some ⟨gw, 0, none⟩) m cap) := hrel.2.1.cell 1
      have hg0 : w.heap.size < wr.heap.size := hrel.2.1.lt
      clear hy hps1 hrel hrd1 hrw
      have i0' : (0 : Int) ≤ (k : Int) := by omega
      have i1 : (k : Int) < (m : Int) := by omega
      have ne1 : w.heap.size ≠ gw := by omega
      have ne2 : gw ≠ w.heap.size := by omega
      have ne3 : wr.heap.size ≠ gw := by omega
      have ne4 : gw ≠ wr.heap.size := by omega
      have ne5 : w.heap.size ≠ wr.heap.size := by omega
      have ne6 : wr.heap.size ≠ w.heap.size := by omega
      go_wp2_with fail
      have bv := Box.new wr 37 #[.bool s1, .slice Ai y ci]
      have v1 : (wr.alloc (.cells #[.bool s1, .slice Ai y ci] 37)).cell? ⟨wr.heap.size, 1, none⟩ = some (.slice Ai y ci) := bv.cell 1
      have q2 : (wr.alloc (.cells #[.bool s1, .slice Ai y ci] 37)).cell? ⟨w.heap.size, 1, none⟩ = some (.slice (some ⟨gw, 0, none⟩) m cap) := by rw [World.cell?_alloc_lt _ _ _ hg0]; exact q1
      have z12 : (wr.alloc (.cells #[.bool s1, .slice Ai y ci] 37)).cell? ⟨gw, k * 2 + 1, none⟩ = some (.slice Ai y ci) := by rw [World.cell?_alloc_lt _ _ _ hgw2]; exact z1
      have z22 : (wr.alloc (.cells #[.bool s1, .slice Ai y ci] 37)).frozen? ⟨gw, k * 2 + 1, none⟩ = false := (((Below.refl wr.heap.size wr).alloc (Nat.le_refl _) _).frozen (p := ⟨gw, k * 2 + 1, none⟩) hgw2).trans z2
      have hrw8 := (HRw.out.alloc (.cells #[.bool s1, .slice Ai y ci] 37))
      have hb8 : Below wr.heap.size wr (wr.alloc (.cells #[.bool s1, .slice Ai y ci] 37)) := (Below.refl _ _).alloc (Nat.le_refl _) _
      have hs8 : wr.heap.size + 1 = (wr.alloc (.cells #[.bool s1, .slice Ai y ci] 37)).heap.size := by simp
      have HRw8 := Lib.hid hrw8
      have HB8 := Lib.hid hb8
      have HS8 := Lib.hid hs8
      clear hrw8 hb8 hs8 bv z0 z1 z2 q1
      generalize wr.alloc (.cells #[.bool s1, .slice Ai y ci] 37) = w8 at v1 q2 z12 z22 HRw8 HB8 HS8 ⊢
      have hw8 : wr.heap.size < w8.heap.size := by have := HS8.out; omega
      go_region_held3 (fun w' => w'.cell? ⟨w.heap.size, 1, none⟩ = some (.slice (some ⟨gw, 0, none⟩) m cap) ∧ w'.cell? ⟨wr.heap.size, 1, none⟩ = some (.slice Ai y ci))
        (first | exact ⟨s17, s27⟩ | go_keep)
        (first
          | (go_at_call 42; refine (clone_sl Ai y ci d1 _ (Lib.hid HRw8.out.drew) (by omega)).mono ?_; rintro e w7 ⟨A6, c6, rfl, hown7, hb7⟩; have z17 : w7.cell? ⟨gw, k * 2 + 1, none⟩ = some (.slice Ai y ci) := (hb7.cell (show gw < _ from Nat.lt_trans hgw2 hw8)).trans z12; have z27 : w7.frozen? ⟨gw, k * 2 + 1, none⟩ = false := (hb7.frozen (show gw < _ from Nat.lt_trans hgw2 hw8)).trans z22; have s17 : w7.cell? ⟨w.heap.size, 1, none⟩ = some (.slice (some ⟨gw, 0, none⟩) m cap) := (hb7.cell (show w.heap.size < _ from Nat.lt_trans hg0 hw8)).trans q2; have s27 : w7.cell? ⟨wr.heap.size, 1, none⟩ = some (.slice Ai y ci) := (hb7.cell (show wr.heap.size < _ from hw8)).trans v1))
      have hnext := cloRel_next HRel.out HPL.out HPs1.out (HB8.out.trans ((Below.refl _ _).drew.trans (hb7.mono (by show wr.heap.size ≤ w8.heap.size; omega)))) hown7 (by show wr.heap.size ≤ w8.heap.size; omega) HY.out
      clear hown7 hb7
      go_wp2_with fail
      go_roundw
      case rel => exact ⟨k + 1, by omega, by go_num, hnext⟩
      case measure => simp [intOf]; omega
    · obtain rfl : m = k := by omega
      have hfin := cloRel_end hrel HPL.out HN0.out
      have HF := Lib.hid hfin
      have k0 : wr.cell? ⟨w.heap.size + 1, 0, none⟩ = some (.slice none 0 0) := hrel.2.2.1.cell 0
      have k1 : wr.cell? ⟨w.heap.size + 1, 1, none⟩ = some (.slice none 0 0) := hrel.2.2.1.cell 1
      have f0 : wr.frozen? ⟨w.heap.size + 1, 0, none⟩ = false := hrel.2.2.1.frozen 0
      have f1 : wr.frozen? ⟨w.heap.size + 1, 1, none⟩ = false := hrel.2.2.1.frozen 1
      have q0 : wr.cell? ⟨w.heap.size, 0, none⟩ = some (.slice A1 n c1) := hrel.2.1.cell 0
      have q1 : wr.cell? ⟨w.heap.size, 1, none⟩ = some (.slice B2 m cap) := hrel.2.1.cell 1
      have HBb := Lib.hid hrel.1
      clear hrel hfin
      go_wp2_with fail
      exact bodyPost_ret (v := .agg #[.slice A1 n c1, .slice B2 m cap]) (by simp [results, Try.results29, go_sem, k0, k1]) rfl ⟨_, _, _, _, rfl, (HF.out.put (by omega) _ _).mono (by omega), below_put HBb.out (by omega) _ _⟩
end Go.Proofs.Ytkdnkaiknmcfmaa
