/-
  What the inner functions 'read' and 'framesOf' of package wal answer. Conditions: the disk's slices read as bytes and writes, the slice as texts.
-/
import Derived.Test.YtkdnkaiknmcfmaaWalA
import Derived.Test.YtkdnkaiknmcfmaaFrameF
import Derived.Test.YtkdnkaiknmcfmaaMemQ
namespace Go.Proofs.Ytkdnkaiknmcfmaa
open Go.RowKit
set_option linter.unusedVariables false

theorem info_bytes : (Try.prog.info? 22).map (fun i => (i.zero, i.size, i.bytes)) = some (some (.slice none 0 0), 1, 24) := by kernel_rfl

theorem own_le {w : World} {base s : Nat} {e : TypeId} {A : Option Addr} {n c : Nat} {xs : List Value} (h : w.ownsRow base e s (.slice A n c) n xs) : n ≤ c ∧ c ≤ maxLen := by
  obtain ⟨A', c', e, h1, h2⟩ := own_slice2 h
  injection e with _ _ e
  subst e
  exact ⟨h1, h2⟩

/-- what reading a disk comes to: the bytes seen, the records, how many bytes these are -/
def ReadIs (b : List UInt8) (ps : List DM.Wr) (r : List UInt8) (ts : List (List UInt8)) (k : Nat) (x : Int) : Prop :=
  (DM.may b ps ∧ r = DM.behind b ps ∧ NM.cut r = (ts, k) ∧ x = 0) ∨ (¬ DM.may b ps ∧ r = [] ∧ ts = [] ∧ k = 0 ∧ x = 30)
theorem readIs_ex (b : List UInt8) (ps : List DM.Wr) : ∃ r ts k x, ReadIs b ps r ts k x := by
  by_cases h : DM.may b ps
  · exact ⟨_, _, _, _, .inl ⟨h, rfl, rfl, rfl⟩⟩
  · exact ⟨_, _, _, _, .inr ⟨h, rfl, rfl, rfl, rfl⟩⟩
def RAns (w : World) (r : List UInt8) (ts : List (List UInt8)) (n q k : Nat) (x : Int) (e : Ending) (w' : World) : Prop :=
  ∃ A c C g, e = .returned (.tuple #[.slice A n c, .slice C q g, .int .i64 (k : Int), .int .i64 x]) ∧ Rd w' A n (bc r) ∧ n ≤ c ∧ c ≤ maxLen ∧ w'.ownsRow w.heap.size 9 1 (.slice C q g) q (sc ts) ∧ Below w.heap.size w w'
theorem cut_own {l : List UInt8} {ts : List (List UInt8)} {m k : Nat} {w w' : World} {e : Ending} (h : CutIs l ts m k) (hp : CutPost w l e w') : ∃ A c, e = .returned (.tuple #[.slice A m c, .int .i64 (k : Int), .int .i64 0]) ∧ w'.ownsRow w.heap.size 9 1 (.slice A m c) m (sc ts) ∧ Below w.heap.size w w' := by
  obtain ⟨rfl, h⟩ := h
  obtain ⟨hb, v, rfl, ho⟩ := hp
  rw [h] at ho
  obtain ⟨A, c, rfl, h1, h2⟩ := own_slice ho
  exact ⟨A, c, by rw [h], ho, hb⟩

set_option maxRecDepth 100000 in
set_option maxHeartbeats 2000000 in
theorem read_any (v : Value) (b r : List UInt8) (ps : List DM.Wr) (ts : List (List UInt8)) (n q k : Nat) (x : Int) (w : World) (HV : Hid (DiskIs w v b ps)) (HS : Hid (ReadIs b ps r ts k x)) (Hn : Hid (r.length = n)) (Hq : Hid (ts.length = q)) :
    Calls Try.prog 23 #[v] w (RAns w r ts n q k x) := by
  obtain ⟨A, n1, c, B, m, d, rfl, h⟩ := HV.out
  clear h
  have hb0 : Below w.heap.size w (w.alloc (.cells #[.slice A n1 c, .slice B m d] 25)) := (Below.refl _ _).alloc (Nat.le_refl _) _
  have HV0 := Lib.hid (HV.out.below hb0)
  have HB0 := Lib.hid hb0
  clear hb0 HV
  rcases HS.out with ⟨hm, hr, hc, rfl⟩ | ⟨hm, hr, hc, hk, rfl⟩
  · have hSee := Lib.hid (show SeeIs b ps r 0 from .inl ⟨hm, hr, rfl⟩)
    have hn20 : n ≤ 1048576 := by rw [← Hn.out, hr]; exact DM.fits_all hm.2
    have HC := Lib.hid (show CutIs r ts q k from ⟨Hq.out, hc⟩)
    clear HS hm hr hc
    go_enter Try.func23, Try.ntmps23
    go_wp2_with fail
    refine (see_s _ b r ps n 0 _ HV0 hSee Hn).mono ?_
    rintro e w1 ⟨A1, c1, rfl, hown1, hb1⟩
    obtain ⟨g1, g2⟩ := own_le hown1
    have hr1 := Rd.of_own hown1
    have HR1 := Lib.hid hr1
    have HB1 := Lib.hid (bmore HB0.out hb1 (Nat.le_refl _))
    have HG2 := Lib.hid g2
    clear hown1 hb1 HV0 HB0 hr1 g2
    go_wp2_with fail
    refine (cut_any A1 n c1 r _ HR1.out g1 HG2.out hn20).mono ?_
    intro e w2 hp
    obtain ⟨A2, c2, rfl, hr2, hb2⟩ := cut_own HC.out hp
    have HF := Lib.hid (show RAns w r ts n q k 0 (.returned (.tuple #[.slice A1 n c1, .slice A2 q c2, .int .i64 (k : Int), .int .i64 0])) w2 from ⟨_, _, _, _, rfl, HR1.out.below hb2, g1, HG2.out, own_mono hr2 HB1.out.size, bmore HB1.out hb2 (Nat.le_refl _)⟩)
    clear hr2 hb2 hp HR1 HB1
    go_wp2_with fail
    exact bodyPost_ret (v := .tuple #[.slice A1 n c1, .slice A2 q c2, .int .i64 (k : Int), .int .i64 0]) (by simp [results, Try.results23, go_sem]) rfl HF.out
  · have hSee := Lib.hid (show SeeIs b ps r 30 from .inr ⟨hm, hr, rfl⟩)
    subst hr
    subst hc
    subst hk
    obtain rfl : 0 = n := Hn.out
    obtain rfl : 0 = q := Hq.out
    clear HS hm
    go_enter Try.func23, Try.ntmps23
    go_wp2_with fail
    refine (see_s _ b [] ps 0 30 _ HV0 hSee Hn).mono ?_
    rintro e w1 ⟨A1, c1, rfl, hown1, hb1⟩
    have HF := Lib.hid (show RAns w [] [] 0 0 0 30 (.returned (.tuple #[.slice none 0 0, .slice none 0 0, .int .i64 (0 : Nat), .int .i64 30])) w1 from ⟨_, _, _, _, rfl, Rd.nil, Nat.le_refl _, Nat.zero_le _, World.ownsRow_nil _ _ _ _, bmore HB0.out hb1 (Nat.le_refl _)⟩)
    clear hown1 hb1 HB0 HV0
    go_wp2_with fail
    exact bodyPost_ret (v := .tuple #[.slice none 0 0, .slice none 0 0, .int .i64 (0 : Nat), .int .i64 30]) (by simp [results, Try.results23, go_sem]) rfl HF.out

/-- frame.Frame's answer lies in memory of its own -/
theorem frame_own (l r : List UInt8) (k : Nat) (x : Int) (w : World) (HT : Hid (TextIs l r k x)) (hl : l.length ≤ 9223372036854775807) : Calls Try.prog 40 #[.string ⟨l.toArray⟩] w (BAns w r k x) := by
  by_cases h : l.length ≤ 4096
  · obtain ⟨rfl, ⟨_, rfl, rfl⟩ | ⟨h2, _⟩⟩ := HT.out
    rotate_left
    · omega
    go_enter Try.func40, Try.ntmps40
    go_wp2_with (go_at_call 50; refine (text_ok ⟨l.toArray⟩ w h).mono ?_; rintro e w' ⟨v, rfl, ho, hb⟩)
    go_ret2
    obtain ⟨A, c, rfl, h1, h2⟩ := own_slice ho
    exact ⟨A, c, rfl, ho, hb⟩
  · obtain ⟨rfl, ⟨h2, _⟩ | ⟨_, rfl, rfl⟩⟩ := HT.out
    · omega
    go_enter Try.func40, Try.ntmps40
    go_wp2_with fail
    go_ret2
    exact ⟨none, 0, rfl, World.ownsRow_nil _ _ _ _, Below.refl _ _⟩

/-- a slice of slices of bytes -/
def RowsIs (w : World) (A : Option Addr) (n : Nat) (fs : List (List UInt8)) : Prop := fs.length = n ∧ ∃ vs : List Value, Rd w A n vs ∧ ∀ (i : Nat) (v : Value) (l : List UInt8), vs[i]? = some v → fs[i]? = some l → ByIs w v l
theorem RowsIs.below {w w' : World} {A : Option Addr} {n : Nat} {fs : List (List UInt8)} (h : RowsIs w A n fs) (hb : Below w.heap.size w w') : RowsIs w' A n fs := by
  obtain ⟨h0, vs, h1, h2⟩ := h
  exact ⟨h0, vs, h1.below hb, fun i v l hv hl => (h2 i v l hv hl).below hb⟩
theorem RowsIs.nil {w : World} {A : Option Addr} : RowsIs w A 0 [] := ⟨rfl, [], Rd.nil, fun i v l hv => by simp at hv⟩
theorem RowsIs.at_ {w : World} {A : Option Addr} {n k : Nat} {fs : List (List UInt8)} (h : RowsIs w A n fs) (hk : k < n) :
    ∃ ad Ai ci f, A = some ad ∧ fs[k]? = some f ∧ w.cell? (ad.add k) = some (.slice Ai f.length ci) ∧ f.length ≤ ci ∧ ci ≤ maxLen ∧ Rd w Ai f.length (bc f) := by
  obtain ⟨h0, vs, h1, h2⟩ := h
  obtain ⟨ad, u, rfl, _, hu, hc⟩ := h1.at_ hk
  have hkf : k < fs.length := by omega
  obtain ⟨Ai, ci, rfl, g1, g2, g3⟩ := h2 k u fs[k] hu (List.getElem?_eq_getElem hkf)
  exact ⟨ad, Ai, ci, fs[k], rfl, List.getElem?_eq_getElem hkf, hc, g1, g2, g3⟩

def short (ls : List (List UInt8)) : Prop := ∀ s ∈ ls, s.length ≤ 4096
instance (ls : List (List UInt8)) : Decidable (short ls) := by unfold short; infer_instance
/-- what texts' frames come to -/
def FramesIs (ls fs : List (List UInt8)) (x : Int) : Prop := (short ls ∧ fs = ls.map NM.text ∧ x = 0) ∨ (¬ short ls ∧ fs = [] ∧ x = 3)
theorem framesIs_ex (ls : List (List UInt8)) : ∃ fs x, FramesIs ls fs x := by
  by_cases h : short ls
  · exact ⟨_, _, .inl ⟨h, rfl, rfl⟩⟩
  · exact ⟨_, _, .inr ⟨h, rfl, rfl⟩⟩
def FrAns (w : World) (fs : List (List UInt8)) (n : Nat) (x : Int) (e : Ending) (w' : World) : Prop :=
  ∃ A c, e = .returned (.tuple #[.slice A n c, .int .i64 x]) ∧ RowsIs w' A n fs ∧ n ≤ c ∧ c ≤ maxLen ∧ Below w.heap.size w w'
/-- the loop's word: of the first k texts the frames are there -/
def FrRel (w : World) (ls : List (List UInt8)) (k : Nat) (u : Value) (wr : World) : Prop :=
  Below w.heap.size w wr ∧ short (ls.take k) ∧ ∃ vs : List Value, vs.length = k ∧ wr.ownsRow w.heap.size 22 1 u k vs ∧
    ∀ (i : Nat) (v : Value) (s : List UInt8), vs[i]? = some v → ls[i]? = some s → wr.ownsRow w.heap.size 5 1 v (NM.text s).length (bc (NM.text s))
theorem frRel_next {w wr w1 w2 : World} {ls : List (List UInt8)} {s : List UInt8} {k y c : Nat} {u v : Value} {A : Option Addr} {vs : List Value} (h1 : Below w.heap.size w wr) (h2 : short (ls.take k)) (h3 : vs.length = k) (h4 : wr.ownsRow w.heap.size 22 1 u k vs)
    (h5 : ∀ (i : Nat) (v : Value) (s : List UInt8), vs[i]? = some v → ls[i]? = some s → wr.ownsRow w.heap.size 5 1 v (NM.text s).length (bc (NM.text s)))
    (hk : ls[k]? = some s) (hs : s.length ≤ 4096) (hb : Below wr.heap.size wr w1) (hy : (NM.text s).length = y) (ho : w1.ownsRow wr.heap.size 5 1 (.slice A y c) y (bc (NM.text s)))
    (ho2 : w2.ownsRow w.heap.size 22 1 v (k + 1) (vs ++ [.slice A y c])) (hg : (w1.alloc (.cells #[.slice A y c] 22)).grownBy w2 u.ownBlock) : FrRel w ls (k + 1) v w2 := by
  obtain ⟨hlt, he⟩ := List.getElem?_eq_some_iff.1 hk
  have hba : Below w1.heap.size w1 (w1.alloc (.cells #[.slice A y c] 22)) := (Below.refl _ _).alloc (Nat.le_refl _) _
  have hbx : Below wr.heap.size wr (w1.alloc (.cells #[.slice A y c] 22)) := hb.trans (hba.mono hb.size)
  have h4' := own_below2 h4 hbx
  have far : ∀ {base n : Nat} {v : Value} {xs : List Value}, (w1.alloc (.cells #[.slice A y c] 22)).ownsRow base 5 1 v n xs → w2.ownsRow base 5 1 v n xs := fun h => own_grown h hg (own_ne h4' h (by decide))
  refine ⟨?_, ?_, vs ++ [.slice A y c], by simp [h3], ho2, ?_⟩
  · have hB := bmore h1 hbx (Nat.le_refl _)
    exact hB.grown hg hB.size (own_block_ge h4')
  · intro t ht
    rw [List.take_succ_eq_append_getElem hlt, List.mem_append] at ht
    rcases ht with ht | ht
    · exact h2 t ht
    · simp at ht; rw [ht, he]; exact hs
  · intro i v' t hv ht
    rcases Nat.lt_or_ge i vs.length with hil | hil
    · rw [List.getElem?_append_left hil] at hv
      exact far (own_below2 (h5 i v' t hv ht) hbx)
    · rw [List.getElem?_append_right hil] at hv
      rcases Nat.eq_zero_or_pos (i - vs.length) with h0 | h0
      · rw [h0] at hv
        simp at hv
        subst hv
        obtain rfl : i = k := by omega
        rw [hk] at ht
        injection ht with ht
        subst ht
        rw [hy]
        exact own_mono (far (own_below2 ho hba)) h1.size
      · rw [List.getElem?_eq_none (by simp; omega)] at hv; cases hv
theorem frRel_end {w wr : World} {ls fs : List (List UInt8)} {n : Nat} {u : Value} {x : Int} (h : FrRel w ls n u wr) (hl : ls.length = n) (hF : FramesIs ls fs x) : FrAns w fs fs.length x (.returned (.tuple #[u, .int .i64 0])) wr := by
  obtain ⟨h1, h2, vs, h3, h4, h5⟩ := h
  rw [List.take_of_length_le (by omega)] at h2
  rcases hF with ⟨_, rfl, rfl⟩ | ⟨hno, _⟩
  · obtain ⟨A, c, rfl, g1, g2⟩ := own_slice h4
    have hln : (ls.map NM.text).length = n := by simp [hl]
    refine ⟨A, c, by rw [hln], ⟨rfl, vs, by rw [hln]; exact Rd.of_own h4, fun i v l hv hl' => ?_⟩, by rw [hln]; exact g1, g2, h1⟩
    rw [List.getElem?_map] at hl'
    cases hq : ls[i]? with
    | none => rw [hq] at hl'; cases hl'
    | some s =>
      rw [hq] at hl'
      simp at hl'
      subst hl'
      exact ByIs.of_own (h5 i v s hv hq)
  · exact absurd h2 hno
theorem fr_long {w wr : World} {ls fs : List (List UInt8)} {k : Nat} {s : List UInt8} {x : Int} (hB : Below w.heap.size w wr) (hk : ls[k]? = some s) (hs : 4096 < s.length) (hF : FramesIs ls fs x) : FrAns w fs fs.length x (.returned (.tuple #[.slice none 0 0, .int .i64 3])) wr := by
  rcases hF with ⟨h, _⟩ | ⟨_, rfl, rfl⟩
  · have := h s (List.mem_of_getElem? hk)
    omega
  · exact ⟨none, 0, rfl, RowsIs.nil, Nat.le_refl _, Nat.zero_le _, hB⟩

set_option maxRecDepth 100000 in
set_option maxHeartbeats 2000000 in
theorem framesOf_any (A : Option Addr) (n c : Nat) (ls fs : List (List UInt8)) (n9 : Nat) (x : Int) (w : World) (HR : Hid (Rd w A n (sc ls))) (HSm : Hid (∀ t ∈ ls, t.length ≤ 9223372036854775807)) (hn : n ≤ 1024) (HF : Hid (FramesIs ls fs x)) (Hn9 : Hid (fs.length = n9)) :
    Calls Try.prog 24 #[.slice A n c] w (FrAns w fs n9 x) := by
  obtain ⟨i0, hi, hz0, hz1, hz2⟩ := info_parts info_bytes
  have hl : ls.length = n := by have := HR.out.1; rwa [sc_length] at this
  have HL := Lib.hid hl; clear hl
  have hn9 := Hn9.out
  subst hn9
  clear Hn9
  go_enter Try.func24, Try.ntmps24
  go_wp2_with fail
  go_loopw [4, 11] (fun u i wr => ∃ k : Nat, k ≤ n ∧ i = .int .i64 k ∧ FrRel w ls k u wr) (fun _ i _ => n - (intOf i).toNat)
  case atStart => exact ⟨0, by omega, rfl, Below.refl _ _, by simp [short], [], rfl, World.ownsRow_nil _ _ _ _, fun i v s hv => by simp at hv⟩
  case round =>
    obtain ⟨k, hk, rfl, hrel⟩ := hrel
    by_cases hlt : k < n
    · have hkl : k < ls.length := by have := HL.out; omega
      obtain ⟨ad, u, rfl, _, hu, hcell⟩ := (HR.out.below hrel.1).at_ hlt
      rw [sc_get ls k hkl] at hu
      injection hu with hu
      subst hu
      have hsm := HSm.out _ (List.getElem_mem hkl)
      have hks : ls[k]? = some ls[k] := List.getElem?_eq_getElem hkl
      obtain ⟨s, hs⟩ : ∃ s, s = ls[k] := ⟨_, rfl⟩
      rw [← hs] at hcell hsm hks
      have HKS := Lib.hid hks
      clear hs hks hkl
      obtain ⟨r, y, x1, hT⟩ := textIs_ex s
      have HT := Lib.hid hT
      obtain ⟨h1, h2, vs, h3, h4, h5⟩ := hrel
      obtain ⟨A0, c0, rfl, hc0, hm0⟩ := own_slice h4
      have H1 := Lib.hid h1
      have H2 := Lib.hid h2
      have H3 := Lib.hid h3
      have H4 := Lib.hid h4
      have H5 := Lib.hid h5
      clear h1 h2 h3 h4 h5 hm0 hc0
      go_wp2_with fail
      refine (frame_own s r y x1 _ HT hsm).mono ?_
      rintro e w1 ⟨A1, c1, rfl, hown1, hb1⟩
      obtain ⟨hrk, ⟨h4096, hrt, rfl⟩ | ⟨h4096, hrt, rfl⟩⟩ := hT
      · rw [hrt] at hown1 hrk
        have HO1 := Lib.hid hown1
        have HB1 := Lib.hid hb1
        have HRK := Lib.hid hrk
        have hws := (bmore H1.out hb1 (Nat.le_refl _)).size
        have hown0 := own_below2 H4.out hb1
        have HO0 := Lib.hid hown0
        clear hown1 hb1 hrk hrt HT hown0
        go_wp2_with (at_builtin; refine wpList_append_rd _ rfl _ _ 52 rfl w.heap.size 22 i0 (.slice none 0 0) 24 Try.underlying52 hi hz0 hz1 hz2 rfl _ _ _ rfl (HO0.out.alloc _) (some ⟨w1.heap.size, 0, none⟩) 1 1 [.slice A1 y c1] rfl (rd_new _ _ _) (by intro u hu; simp at hu; subst hu; rfl) (by unfold maxLen; omega) (by omega) (by simp; omega) ?_; intro v2 w2 hown2 hg2 hob2)
        have hnext := frRel_next H1.out H2.out H3.out H4.out H5.out HKS.out h4096 HB1.out HRK.out HO1.out hown2 hg2
        clear hown2 hg2 hob2
        go_roundw
        case rel => exact ⟨k + 1, by omega, by go_num, hnext⟩
        case measure => simp [intOf]; omega
      · have hfin := fr_long (bmore H1.out hb1 (Nat.le_refl _)) HKS.out h4096 HF.out
        have HFin := Lib.hid hfin
        clear hfin hown1 hb1 hrk hrt HT H1 H2 H3 H4 H5
        go_wp2_with fail
        go_ret2
        exact HFin.out
    · obtain rfl : n = k := by omega
      have hfin := frRel_end hrel HL.out HF.out
      have HFin := Lib.hid hfin
      clear hfin hrel
      go_wp2_with fail
      go_ret2
      exact HFin.out
end Go.Proofs.Ytkdnkaiknmcfmaa
