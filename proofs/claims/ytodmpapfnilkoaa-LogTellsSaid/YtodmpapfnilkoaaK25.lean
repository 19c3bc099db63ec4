/-
  What the document's own functions of layer 6 (towncrierref06) answer of lists that read as ints. Conditions: the slices read as ints.
  The document's own Within (towncrierref06). Conditions: the slices read as ints.
  An argument that is a group (api.Group by value: two lists of ints), opened to cells. Conditions: as each theorem says.
  The document's own Next of a group's log (towncrierref13): the members of the next slot. Conditions: the slices read as ints, as texts; at most 100,000 of them.
  The document's own MayGroup, CheckGroup (towncrierref06). Conditions: the slices read as ints.
  The document's own Commands, Members, Find of a log (towncrierref13). Conditions: the slices read as ints, as texts; at most 100,000 of them.
-/
import Derived.Test.YtodmpapfnilkoaaK01
import Derived.Deep.QuietTactic
import Derived.BigQuiet
import Derived.Below
import Derived.Lib.Strings
import Derived.Lib.Slices
import Derived.Lib.Small
import Derived.Lib.Walk
import Derived.Test.YtodmpapfnilkoaaK16
import Derived.Test.YtodmpapfnilkoaaProg
import Derived.Test.YtodmpapfnilkoaaRows
import Derived.Lib.SmallJoins
import Derived.OpenShut
import Derived.Test.YtodmpapfnilkoaaK24
namespace Go.Proofs.Ytodmpapfnilkoaa
open Go.RowKit
set_option linter.unusedVariables false
set_option maxRecDepth 100000

set_option maxHeartbeats 1000000 in
theorem rHas_any (A : Option Addr) (n c : Nat) (zs : List Int) (x : Int) (w : World) (hr : Rd w A n (ic zs)) (hm : n ≤ 9223372036854775807) :
    Calls Try.prog 72 #[.slice A n c, .int .i64 x] w fun e w' => e = .returned (.bool (QM.has zs x)) ∧ w = w' := by
  have hl : zs.length = n := by have := hr.1; rwa [ic_length] at this
  obtain ⟨r, hrr⟩ : ∃ r, r = QM.has zs x := ⟨_, rfl⟩
  have hst : QM.has (zs.drop 0) x = r := hrr.symm
  rw [← hrr]
  have HL := Lib.hid hl; clear hl
  have HS := Lib.hid hst; clear hst hrr
  go_enter Try.func72, Try.ntmps72
  go_wp2
  go_loop [5] (fun i => ∃ k : Nat, k ≤ n ∧ i = .int .i64 k ∧ Hid (QM.has (zs.drop k) x = r)) (fun i => n - (intOf i).toNat)
  case atStart => exact ⟨0, by omega, rfl, HS⟩
  case round =>
    clear HS
    obtain ⟨k, hk, rfl, HR⟩ := hrel
    by_cases hlt : k < n
    · have hkz : k < zs.length := by have := HL.out; omega
      obtain ⟨ad, u, rfl, _, hu, hcell⟩ := hr.at_ hlt
      rw [ic_get zs k hkz] at hu
      injection hu with hu
      subst hu
      have hd := HR.out
      rw [List.drop_eq_getElem_cons hkz] at hd
      obtain ⟨z, hz⟩ : ∃ z, z = zs[k] := ⟨_, rfl⟩
      rw [← hz] at hcell hd
      clear hz HR
      by_cases h1 : x = z
      · have hd' : true = r := by rw [← hd]; simp [QM.has, h1]
        clear hd
        have HD := Lib.hid hd'; clear hd'
        subst h1
        have h2 : (x == x) = true := by simp
        go_wp2
        go_ret
        exact ⟨ret_eq HD.out, rfl⟩
      · have hd' : QM.has (zs.drop (k + 1)) x = r := by
          rw [← hd]
          unfold QM.has
          simp [h1]
        clear hd
        have HD := Lib.hid hd'; clear hd'
        have h2 : (z == x) = false := by simpa using fun h => h1 h.symm
        clear h1
        go_wp2
        go_round
        case rel => exact ⟨k + 1, by omega, by go_num, HD⟩
        case measure => simp [intOf]; omega
    · have hd := HR.out
      rw [List.drop_of_length_le (by have := HL.out; omega)] at hd
      have hd' : false = r := by rw [← hd]; simp [QM.has]
      clear hd
      have HD := Lib.hid hd'; clear hd'
      go_wp2
      go_ret
      exact ⟨ret_eq HD.out, rfl⟩

end Go.Proofs.Ytodmpapfnilkoaa

namespace Go.Proofs.Ytodmpapfnilkoaa
open Go.RowKit
set_option linter.unusedVariables false
set_option maxRecDepth 100000

set_option maxHeartbeats 1000000 in
theorem rWithin_any (A : Option Addr) (n c : Nat) (ms : List Int) (B : Option Addr) (m d : Nat) (rs : List Int) (w : World) (hr : Rd w A n (ic ms)) (hm : n ≤ 9223372036854775807) (hr2 : Rd w B m (ic rs)) (hm2 : m ≤ 9223372036854775807) :
    Calls Try.prog 59 #[.slice A n c, .slice B m d] w fun e w' => e = .returned (.bool (QM.within ms rs)) ∧ w = w' := by
  have hl : ms.length = n := by have := hr.1; rwa [ic_length] at this
  obtain ⟨r, hrr⟩ : ∃ r, r = QM.within ms rs := ⟨_, rfl⟩
  have hst : QM.within (ms.drop 0) rs = r := hrr.symm
  rw [← hrr]
  have HL := Lib.hid hl; clear hl
  have HS := Lib.hid hst; clear hst hrr
  go_enter Try.func59, Try.ntmps59
  go_wp2
  go_loop [5] (fun i => ∃ k : Nat, k ≤ n ∧ i = .int .i64 k ∧ Hid (QM.within (ms.drop k) rs = r)) (fun i => n - (intOf i).toNat)
  case atStart => exact ⟨0, by omega, rfl, HS⟩
  case round =>
    clear HS
    obtain ⟨k, hk, rfl, HR⟩ := hrel
    by_cases hlt : k < n
    · have hkz : k < ms.length := by have := HL.out; omega
      obtain ⟨ad, u, rfl, _, hu, hcell⟩ := hr.at_ hlt
      rw [ic_get ms k hkz] at hu
      injection hu with hu
      subst hu
      have hd := HR.out
      rw [List.drop_eq_getElem_cons hkz] at hd
      obtain ⟨z, hz⟩ : ∃ z, z = ms[k] := ⟨_, rfl⟩
      rw [← hz] at hcell hd
      clear hz HR
      have hc := rHas_any B m d rs z w hr2 hm2
      unfold QM.within at hd
      rw [List.all_cons] at hd
      rcases hb : QM.has rs z with _ | _
      · rw [hb] at hd hc
        have hd' : false = r := by simpa using hd
        have HD := Lib.hid hd'
        have HC := Lib.hid hc
        clear hd hc hd' hb
        go_wp2_with fail
        refine HC.out.mono ?_
        rintro e w1 ⟨rfl, rfl⟩
        go_wp2
        go_ret
        exact ⟨ret_eq HD.out, rfl⟩
      · rw [hb] at hd hc
        have hd' : QM.within (ms.drop (k + 1)) rs = r := by unfold QM.within; simpa using hd
        have HD := Lib.hid hd'
        have HC := Lib.hid hc
        clear hd hc hd' hb
        go_wp2_with fail
        refine HC.out.mono ?_
        rintro e w1 ⟨rfl, rfl⟩
        go_wp2
        go_round
        case rel => exact ⟨k + 1, by omega, by go_num, HD⟩
        case measure => simp [intOf]; omega
    · have hd := HR.out
      rw [List.drop_of_length_le (by have := HL.out; omega)] at hd
      have hd' : true = r := by rw [← hd]; rfl
      clear hd
      have HD := Lib.hid hd'; clear hd'
      go_wp2
      go_ret
      exact ⟨ret_eq HD.out, rfl⟩
end Go.Proofs.Ytodmpapfnilkoaa

namespace Go.Proofs.Ytodmpapfnilkoaa
open Go.RowKit Go.Joins Go.ChangeShapes Go.WideShapes Go.Deep
set_option linter.unusedVariables false
set_option maxRecDepth 100000

/-- an argument that is a group: two slices that read as ints -/
def GroupArg (w : World) (v : Value) (rs ms : List Int) : Prop :=
  ∃ A n c B m d, v = .agg #[.slice A n c, .slice B m d] ∧ n ≤ c ∧ c ≤ maxLen ∧ Rd w A n (ic rs) ∧ m ≤ d ∧ d ≤ maxLen ∧ Rd w B m (ic ms)
theorem GroupArg.below {w w' : World} {v : Value} {rs ms : List Int} (h : GroupArg w v rs ms) (hb : Below w.heap.size w w') : GroupArg w' v rs ms := by
  obtain ⟨A, n, c, B, m, d, e, h1, h2, h3, h4, h5, h6⟩ := h
  exact ⟨A, n, c, B, m, d, e, h1, h2, h3.below hb, h4, h5, h6.below hb⟩

section
variable {H : Type} {enc : TypeId × Value → H} {w : World} {spare : Nat → Bool} {held : Bool}
theorem open_isl {base fuel : Nat} {v : Value} {x : DataW H × List MemPlace} (h : DataW.trod enc Try.prog w base spare held fuel 25 [v] = some x) :
    ∃ A n c zs, v = .slice A n c ∧ n ≤ c ∧ c ≤ maxLen ∧ Rd w A n (ic zs) := by
  rcases open_ints Try.underlying25 Try.underlying3 (by kernel_rfl) h with ⟨hcs, _⟩ | ⟨a, len, cap, zs, hcs, hbl, hl, hm, hz, hx, hcell, hwz⟩
  · simp at hcs
    exact ⟨none, 0, 0, [], hcs, Nat.le_refl _, Nat.zero_le _, Rd.nil⟩
  · simp at hcs
    have hlz : len ≤ zs.length := by rw [hz]; split <;> omega
    refine ⟨some a, len, cap, zs.take len, hcs, hl, hm, by rw [ic_length, List.length_take]; omega, fun hn => ⟨a, rfl, ?_, fun j u hu => ?_⟩⟩
    · have := cell_block (hcell 0 (by omega)); rwa [block_of_add] at this
    · unfold ic at hu
      rw [List.getElem?_map, List.getElem?_take] at hu
      split at hu
      · rename_i hj
        have hjz : j < zs.length := by omega
        rw [hcell j hjz]
        rw [List.getElem?_eq_getElem hjz] at hu
        simp at hu
        rw [← hu]
        simp [hjz]
      · simp at hu
theorem open_group {r : Reach} {b0 base : Nat} {v : Value} {d : DataW H} {p : List MemPlace} (hv : Value.okWide Try.prog w r b0 33 v) (h : DataW.Trod enc Try.prog w base spare held 33 v d p) :
    ∃ rs ms, GroupArg w v rs ms := by
  obtain ⟨v0, v1, y0, y1, n, rfl, rfl, rfl, t0, t1⟩ := open_agg2 Try.underlying33 (by kernel_rfl) (by kernel_rfl) hv h
  obtain ⟨A, a, c, zs, rfl, g1, g2, h0⟩ := open_isl t0
  obtain ⟨B, b, e, ys, rfl, g3, g4, h1⟩ := open_isl t1
  exact ⟨_, _, A, a, c, B, b, e, rfl, g1, g2, h0, g3, g4, h1⟩
end
end Go.Proofs.Ytodmpapfnilkoaa

namespace Go.Proofs.Ytodmpapfnilkoaa.LP
open Go.RowKit CP
open CM (Cm Mg)
set_option linter.unusedVariables false
set_option linter.unusedSimpArgs false
set_option maxRecDepth 100000

theorem info_i13 : (Try.prog.info? 3).map (fun i => (i.zero, i.size, i.bytes)) = some (some (.int .i64 0), 1, 8) := by kernel_rfl
theorem ms_small (s : ByteArray) : (LM.cm s).ms.length ≤ 6 := by
  rcases LM.read_is s with ⟨_, hm, _⟩ | ⟨_, hz, _⟩ | ⟨_, hz, _⟩
  · rcases hm with h | ⟨_, _, _, _, h, _⟩ | ⟨_, _, _, _, h, _⟩ | ⟨_, _, _, _, h, _⟩ | ⟨_, _, _, _, h, _⟩ | ⟨_, _, _, _, h, _⟩
    · rw [h]; decide
    · rw [h]; decide
    · rw [h]; decide
    · exact (QM.may_len h).2.1
    · rw [h]; decide
    · rw [h]; decide
  · rw [hz]; decide
  · rw [hz]; decide
/-- members in a row of the call's own -/
def MbO (w : World) (b : Nat) (v : Value) (l : List Int) : Prop := w.ownsRow b 3 1 v l.length (ic l)
theorem next_take (ros m : List Int) (cs : List Cm) (k : Nat) (h : k < cs.length) : LM.next ros m (cs.take (k + 1)) = LM.turn ros (LM.next ros m (cs.take k)) cs[k] := by
  rw [List.take_succ_eq_append_getElem h, LM.next_snoc]
def NxRel (w wr : World) (u : Value) (ros m : List Int) (cs : List Cm) (k : Nat) : Prop := Below w.heap.size w wr ∧ MbO wr w.heap.size u (LM.next ros m (cs.take k))
set_option maxHeartbeats 2000000 in
theorem next13_any (A : Option Addr) (n c : Nat) (ros : List Int) (B : Option Addr) (m d : Nat) (ms : List Int) (C : Option Addr) (k e : Nat) (l : List ByteArray) (w : World) (h1 : Rd w A n (ic ros)) (hn : n ≤ 100000) (h2 : Rd w B m (ic ms)) (hm : m ≤ 100000) (h3 : TxIs w C k e l) (hk : k ≤ 100000) :
    Calls Try.prog 42 #[.agg #[.slice A n c, .slice B m d], .slice C k e] w fun x w' => ∃ v, x = .returned v ∧ MbO w' w.heap.size v (LM.next ros ms (LM.cmds l)) ∧ Below w.heap.size w w' := by
  obtain ⟨i0, hi, hz0, hz1, hz2⟩ := info_parts info_i13
  have l2 : ms.length = m := by have := h2.1; rwa [ic_length] at this
  have hb0 : Below w.heap.size w (w.alloc (.cells #[.slice A n c, .slice B m d] 33)) := (Below.refl _ _).alloc (Nat.le_refl _) _
  have HB0 := Lib.hid hb0
  have HG := Lib.hid (Box.new w 33 #[.slice A n c, .slice B m d])
  have H1 := Lib.hid h1
  have H2 := Lib.hid h2
  have H3 := Lib.hid h3
  have L2 := Lib.hid l2
  have c0 := HG.out.cell 0
  have c1 := HG.out.cell 1
  simp at c0 c1
  clear h1 h2 h3 l2 hb0
  go_enter Try.func42, Try.ntmps42
  go_wp2_with (at_builtin; refine wpList_append_rd _ rfl _ _ 25 rfl (w.heap.size + 1) 3 i0 (.int .i64 0) 8 Try.underlying25 hi hz0 hz1 hz2 rfl (.slice none 0 0) 0 [] rfl (World.ownsRow_nil _ _ _ _) B m d (ic ms) rfl (H2.out.below HB0.out) (by intro u hu; simp [ic] at hu; obtain ⟨z, _, rfl⟩ := hu; rfl) (by unfold maxLen; omega) (by omega) (by simp) ?_; intro v2 w2 hown2 hg2 hob2)
  have hB2 : Below w.heap.size w w2 := HB0.out.grown hg2 (by simp) (fun g hgu => by simp [Value.ownBlock] at hgu)
  have HG2 := Lib.hid (HG.out.grown hg2 (by simp [Value.ownBlock]))
  have HO := Lib.hid (show MbO w2 w.heap.size v2 ms by
    unfold MbO
    rw [L2.out]
    have := own_base hown2 (Nat.le_succ w.heap.size)
    simpa using this)
  have HB2 := Lib.hid hB2
  clear hB2 hown2 hg2 hob2 HB0 HG c0 c1
  refine (all13_any C k e l w2 (H3.out.below HB2.out) hk).mono ?_
  rintro x1 w3 ⟨va, rfl, hC, hb⟩
  obtain ⟨es, hes, hRow, hRs⟩ := cmsO_row hC
  obtain ⟨AA, cap, rfl, hAt⟩ := hRow.any
  have HB3 := Lib.hid (bmore HB2.out hb (Nat.le_refl _))
  have HG3 := Lib.hid (HG2.out.below hb HG2.out.lt)
  have HO3 := Lib.hid (own_below3 HO.out hb)
  have HAt := Lib.hid hAt
  have HRs := Lib.hid hRs
  have HE := Lib.hid hes
  have hnn : es.length = k := by have := congrArg List.length hes; simp [LM.cmds] at this; rw [this]; exact H3.out.len
  have HNN := Lib.hid hnn
  have HSm : Hid (∀ x ∈ es, x.x.ms.length ≤ 6) := Lib.hid (fun x hx => by
    have : x.x ∈ LM.cmds l := by rw [← hes]; exact List.mem_map.2 ⟨x, hx, rfl⟩
    obtain ⟨s, _, e⟩ := List.mem_map.1 this
    rw [← e]
    exact ms_small s)
  clear hC hb HB2 HG2 HO hRow hAt hRs hes
  obtain ⟨cs, hcs⟩ : ∃ cs, cs = LM.cmds l := ⟨_, rfl⟩
  rw [← hcs] at HE
  have HCS := Lib.hid hcs
  clear hcs
  rw [hnn]
  clear hnn
  go_wp2_with fail
  go_loopw [5, 7] (fun u i wr => ∃ p : Nat, p ≤ k ∧ i = .int .i64 p ∧ Below w3.heap.size w3 wr ∧ MbO wr w.heap.size u (LM.next ros ms (cs.take p))) (fun _ i _ => k - (intOf i).toNat)
  case atStart => exact ⟨0, by omega, rfl, Below.refl _ _, HO3.out⟩
  case round =>
    clear HO3
    obtain ⟨p, hp, rfl, hB, hM⟩ := hrel
    have HB := Lib.hid hB
    have HM := Lib.hid hM
    clear hB hM
    by_cases hlt : p < k
    · obtain ⟨el, hel⟩ : ∃ el, es[p]? = some el := ⟨_, List.getElem?_eq_getElem (by have := HNN.out; omega)⟩
      obtain ⟨b, off, rfl, hbl, hat⟩ := HAt.out p el hel
      have hat2 := hat.below hbl HB.out
      have x0 := hat2.1
      have x8 := hat2.2.2.2.2.2.2.2.2.1
      have g3 := HG3.out.below HB.out HG3.out.lt
      have y0 := g3.cell 0
      simp at y0
      have hmem : el ∈ es := List.mem_of_getElem? hel
      have hsm := HSm.out el hmem
      have hrow := ((HRs.out el hmem).2.1.below HB.out)
      have hroR := H1.out.below (bmore HB3.out HB.out (Nat.le_refl _))
      have hcp : cs[p]? = some el.x := by rw [← HE.out, List.getElem?_map, hel]; rfl
      have hcl := (List.getElem?_eq_some_iff.1 hcp).1
      have HT := Lib.hid (show LM.next ros ms (cs.take (p + 1)) = LM.turn ros (LM.next ros ms (cs.take p)) el.x by rw [next_take ros ms cs p hcl]; congr; exact (List.getElem?_eq_some_iff.1 hcp).2)
      have hcB : el.B = el.B := rfl
      obtain ⟨EB, hEB⟩ : ∃ EB, EB = el.B := ⟨_, rfl⟩
      obtain ⟨en, hen⟩ : ∃ en, en = el.x.ms.length := ⟨_, rfl⟩
      obtain ⟨ed, hed⟩ : ∃ ed, ed = el.d := ⟨_, rfl⟩
      obtain ⟨ek, hek⟩ : ∃ ek, ek = el.x.k := ⟨_, rfl⟩
      obtain ⟨ems, hems⟩ : ∃ ems, ems = el.x.ms := ⟨_, rfl⟩
      have hT2 := HT.out
      unfold LM.turn at hT2
      rw [← hems, ← hek] at hT2
      have hrR := hrow.1
      rw [← hEB, ← hen, ← hems] at hrR
      rw [← hek] at x0
      rw [← hEB, ← hen, ← hed] at x8
      rw [← hen] at hsm
      have hel2 : ems.length = en := by rw [hems, hen]
      have HRR := Lib.hid hrR
      have HRO := Lib.hid hroR
      have HT3 := Lib.hid hT2
      have HEL := Lib.hid hel2
      have CW := Lib.hid (fun nq => (show Calls Try.prog 59 #[.slice EB en ed, .slice A n c] (wr.drewN nq) (fun e w' => e = .returned (.bool (QM.within ems ros)) ∧ ∃ m, w' = wr.drewN m) from
        (rWithin_any EB en ed ems A n c ros (wr.drewN nq) (hrR.drewN nq) (by omega) (hroR.drewN nq) (by omega)).mono fun e w' ⟨h1, h2⟩ => ⟨h1, nq, h2.symm⟩))
      generalize QM.within ems ros = wb at CW HT3
      clear hcB hEB hen hed hek hems hT2 hrR hroR hrow hel2 hcl hcp hmem hat hat2 g3 HT hel
      have hp0 : (0 : Int) ≤ (p : Int) := by omega
      have hpk : (p : Int) < (k : Int) := by omega
      by_cases hk3 : ek = 3
      · subst hk3
        cases wb
        · have HN := Lib.hid (show LM.next ros ms (cs.take (p + 1)) = LM.next ros ms (cs.take p) by have := HT3.out; simpa using this)
          clear HT3
          go_wp2_with fail
          go_quiet ((go_at_call 59; with_reducible exact CW.out _))
          go_wp2_with fail
          go_roundw
          case rel => exact ⟨p + 1, by omega, by go_num, below_drewN HB.out _, by rw [HN.out]; exact own_below3 HM.out (below_drewN (Below.refl _ _) _)⟩
          case measure => simp [intOf]; omega
        · have HN := Lib.hid (show LM.next ros ms (cs.take (p + 1)) = ems by have := HT3.out; simpa using this)
          clear HT3
          go_wp2_with fail
          go_quiet ((go_at_call 59; with_reducible exact CW.out _))
          go_wp2_with (at_builtin; refine wpList_append_rd _ rfl _ _ 25 rfl w.heap.size 3 i0 (.int .i64 0) 8 Try.underlying25 hi hz0 hz1 hz2 rfl (.slice none 0 0) 0 [] rfl (World.ownsRow_nil _ _ _ _) EB en ed (ic ems) rfl (HRR.out.drewN _) (by intro u hu; simp [ic] at hu; obtain ⟨z, _, rfl⟩ := hu; rfl) (by unfold maxLen; omega) (by omega) (by have := HB3.out.size; have := HB.out.size; simp; omega) ?_; intro v5 w5 hown5 hg5 hob5)
          have hB5 : Below w3.heap.size w3 w5 := (below_drewN HB.out _).grown hg5 (by have := HB.out.size; simpa using this) (fun g hgu => by simp [Value.ownBlock] at hgu)
          have hM5 : MbO w5 w.heap.size v5 ems := by
            unfold MbO
            rw [HEL.out]
            simpa using hown5
          clear hown5 hg5 hob5
          go_roundw
          case rel => exact ⟨p + 1, by omega, by go_num, hB5, by rw [HN.out]; exact hM5⟩
          case measure => simp [intOf]; omega
      · have HN := Lib.hid (show LM.next ros ms (cs.take (p + 1)) = LM.next ros ms (cs.take p) by have := HT3.out; rw [if_neg (fun h => hk3 h.1)] at this; exact this)
        have b3 : (ek == 3) = false := by simpa using hk3
        clear HT3 hk3
        go_wp2_with fail
        go_quiet (fail)
        go_wp2_with fail
        go_roundw
        case rel => exact ⟨p + 1, by omega, by go_num, below_drewN HB.out _, by rw [HN.out]; exact own_below3 HM.out (below_drewN (Below.refl _ _) _)⟩
        case measure => simp [intOf]; omega
    · have hd : cs.take p = cs := List.take_of_length_le (by rw [← HE.out, List.length_map, HNN.out]; omega)
      have HM2 := Lib.hid (hd ▸ HM.out)
      have HBF := Lib.hid (bmore HB3.out HB.out (Nat.le_refl _))
      clear HM hd
      go_wp2
      go_ret
      exact ⟨_, rfl, by rw [← HCS.out]; exact HM2.out, HBF.out⟩
end Go.Proofs.Ytodmpapfnilkoaa.LP

namespace Go.Proofs.Ytodmpapfnilkoaa
open Go.RowKit
set_option linter.unusedVariables false
set_option maxRecDepth 100000

set_option maxHeartbeats 1000000 in
theorem rMayGroup_any (A : Option Addr) (n c : Nat) (rs : List Int) (B : Option Addr) (m d : Nat) (ms : List Int) (w : World) (hr : Rd w A n (ic rs)) (hm : n ≤ 9223372036854775807)
    (hr2 : Rd w B m (ic ms)) (hm2 : m ≤ 9223372036854775807) (h1 : QM.may rs = true) (h2 : QM.may ms = true) :
    Calls Try.prog 58 #[.agg #[.slice A n c, .slice B m d]] w fun e w' => e = .returned (.bool (QM.within ms rs)) ∧ Below w.heap.size w w' := by
  have c1 := fun W (h : Rd W A n (ic rs)) => rMay_any A n c rs W h hm
  have c2 := fun W (h : Rd W B m (ic ms)) => rMay_any B m d ms W h hm2
  rw [h1] at c1
  rw [h2] at c2
  have c3 := fun W (h : Rd W A n (ic rs)) (h2 : Rd W B m (ic ms)) => rWithin_any B m d ms A n c rs W h2 hm2 h hm
  generalize QM.within ms rs = b at c3 ⊢
  have C1 := Lib.hid c1
  have C2 := Lib.hid c2
  have C3 := Lib.hid c3
  clear c1 c2 c3 h1 h2
  go_enter Try.func58, Try.ntmps58
  go_wp2_with fail
  refine (C1.out _ (hr.alloc _)).mono ?_
  rintro e w1 ⟨rfl, q, rfl⟩
  go_wp2_with fail
  refine (C2.out _ ((hr2.alloc _).drewN _)).mono ?_
  rintro e w1 ⟨rfl, q2, rfl⟩
  go_wp2_with fail
  refine (C3.out _ ((hr.alloc _).drewN _) ((hr2.alloc _).drewN _)).mono ?_
  rintro e w1 ⟨rfl, rfl⟩
  go_wp2
  go_ret
  exact ⟨rfl, below_drewN ((Below.refl _ _).alloc (Nat.le_refl _) _) _⟩
set_option maxHeartbeats 1000000 in
theorem rCheckGroup_any (A : Option Addr) (n c : Nat) (rs : List Int) (B : Option Addr) (m d : Nat) (ms : List Int) (y : Int) (w : World) (hr : Rd w A n (ic rs)) (hm : n ≤ 9223372036854775807)
    (hr2 : Rd w B m (ic ms)) (hm2 : m ≤ 9223372036854775807) (hy : QM.GrpIs rs ms y) :
    Calls Try.prog 41 #[.agg #[.slice A n c, .slice B m d]] w fun e w' => e = .returned (.int .i64 y) ∧ Below w.heap.size w w' := by
  rcases hy with ⟨hc, h0⟩ | ⟨hc, hc2, h0⟩ | ⟨hc, hc2, hb⟩
  · have HC := Lib.hid hc
    have hne : (y == 0) = false := by simpa using h0
    clear hc h0
    go_enter Try.func41, Try.ntmps41
    go_wp2_with fail
    refine (rqCheck_any A n c rs y _ (hr.alloc _) hm HC.out).mono ?_
    rintro e w1 ⟨rfl, q, rfl⟩
    go_wp2
    go_ret
    exact ⟨rfl, below_drewN ((Below.refl _ _).alloc (Nat.le_refl _) _) _⟩
  · have HC := Lib.hid hc
    have HC2 := Lib.hid hc2
    have hne : (y == 0) = false := by simpa using h0
    clear hc hc2 h0
    go_enter Try.func41, Try.ntmps41
    go_wp2_with fail
    refine (rqCheck_any A n c rs 0 _ (hr.alloc _) hm HC.out).mono ?_
    rintro e w1 ⟨rfl, q, rfl⟩
    go_wp2_with fail
    refine (rqCheck_any B m d ms y _ ((hr2.alloc _).drewN _) hm2 HC2.out).mono ?_
    rintro e w1 ⟨rfl, q2, rfl⟩
    go_wp2
    go_ret
    exact ⟨rfl, below_drewN ((Below.refl _ _).alloc (Nat.le_refl _) _) _⟩
  · have hm1 : QM.may rs = true := by
      rcases QM.chkIs_cases hc with ⟨_, h⟩ | ⟨_, h⟩
      · exact h
      · omega
    have hmay : QM.may ms = true := by
      rcases QM.chkIs_cases hc2 with ⟨_, h⟩ | ⟨_, h⟩
      · exact h
      · omega
    have HC := Lib.hid hc
    have HC2 := Lib.hid hc2
    have c3 := fun W (h : Rd W A n (ic rs)) (h2 : Rd W B m (ic ms)) => rMayGroup_any A n c rs B m d ms W h hm h2 hm2 hm1 hmay
    generalize QM.within ms rs = b at hb c3
    have C3 := Lib.hid c3
    clear c3 hc hc2 hmay hm1
    rcases b with _ | _
    · obtain rfl : y = 60 := by simpa using hb
      clear hb
      go_enter Try.func41, Try.ntmps41
      go_wp2_with fail
      refine (rqCheck_any A n c rs 0 _ (hr.alloc _) hm HC.out).mono ?_
      rintro e w1 ⟨rfl, q, rfl⟩
      go_wp2_with fail
      refine (rqCheck_any B m d ms 0 _ ((hr2.alloc _).drewN _) hm2 HC2.out).mono ?_
      rintro e w1 ⟨rfl, q2, rfl⟩
      go_wp2_with fail
      refine (C3.out _ ((hr.alloc _).drewN _) ((hr2.alloc _).drewN _)).mono ?_
      rintro e w1 ⟨rfl, hb1⟩
      go_wp2
      go_ret
      exact ⟨rfl, bmore (below_drewN ((Below.refl _ _).alloc (Nat.le_refl _) _) _) hb1 (by simp)⟩
    · obtain rfl : y = 0 := by simpa using hb
      clear hb
      go_enter Try.func41, Try.ntmps41
      go_wp2_with fail
      refine (rqCheck_any A n c rs 0 _ (hr.alloc _) hm HC.out).mono ?_
      rintro e w1 ⟨rfl, q, rfl⟩
      go_wp2_with fail
      refine (rqCheck_any B m d ms 0 _ ((hr2.alloc _).drewN _) hm2 HC2.out).mono ?_
      rintro e w1 ⟨rfl, q2, rfl⟩
      go_wp2_with fail
      refine (C3.out _ ((hr.alloc _).drewN _) ((hr2.alloc _).drewN _)).mono ?_
      rintro e w1 ⟨rfl, hb1⟩
      go_wp2
      go_ret
      exact ⟨rfl, bmore (below_drewN ((Below.refl _ _).alloc (Nat.le_refl _) _) _) hb1 (by simp)⟩
end Go.Proofs.Ytodmpapfnilkoaa

namespace Go.Proofs.Ytodmpapfnilkoaa.LP
open Go.RowKit CP
open CM (Cm Mg)
set_option linter.unusedVariables false
set_option linter.unusedSimpArgs false
set_option maxRecDepth 100000

/-- what Commands answers -/
def CoIs (l : List ByteArray) (w : World) (x : Ending) (w' : World) : Prop :=
  Below w.heap.size w w' ∧ ((LM.chk l ≠ 0 ∧ x = .returned (.tuple #[.slice none 0 0, .int .i64 (LM.chk l)])) ∨ (LM.chk l = 0 ∧ ∃ v, x = .returned (.tuple #[v, .int .i64 0]) ∧ CmsO w' w.heap.size v (LM.cmds l)))
/-- ints of the call's own, from block b on -/
def MbG (w : World) (b : Nat) (v : Value) (l : List Int) : Prop := ∃ M c, v = .slice M l.length c ∧ RowGe w b M c l
theorem MbG.of {w : World} {b : Nat} {v : Value} {l : List Int} (h : MbO w b v l) : MbG w b v l := by
  unfold MbO at h
  obtain ⟨M, c, rfl, h1, h2⟩ := own_form h
  exact ⟨M, c, rfl, rowGe_own h rfl h1 h2⟩
theorem MbG.below {w w' : World} {b : Nat} {v : Value} {l : List Int} (h : MbG w b v l) (hb : Below w.heap.size w w') : MbG w' b v l := by
  obtain ⟨M, c, rfl, h1⟩ := h
  exact ⟨M, c, rfl, h1.below hb⟩
theorem MbG.mono {w : World} {b b' : Nat} {v : Value} {l : List Int} (h : MbG w b v l) (hb : b' ≤ b) : MbG w b' v l := by
  obtain ⟨M, c, rfl, h1⟩ := h
  exact ⟨M, c, rfl, h1.mono hb⟩
/-- what Members answers -/
def MbIs (y : Int) (ros ms : List Int) (l : List ByteArray) (w : World) (x : Ending) (w' : World) : Prop :=
  Below w.heap.size w w' ∧ ((y ≠ 0 ∧ x = .returned (.tuple #[.slice none 0 0, .int .i64 y])) ∨ (y = 0 ∧ ∃ v, x = .returned (.tuple #[v, .int .i64 0]) ∧ MbG w' w.heap.size v (LM.next ros ms (LM.cmds l))))
/-- what Find answers -/
def FiIs (l : List ByteArray) (v : ByteArray) (w : World) (x : Ending) (w' : World) : Prop :=
  Below w.heap.size w w' ∧ x = .returned (.tuple #[.int .i64 (if LM.chk l = 0 then (LM.place l v : Nat) else 0 : Int), .bool (if LM.chk l = 0 then decide (0 < LM.place l v) else false), .int .i64 (LM.chk l)])
set_option maxHeartbeats 2000000 in
theorem commands13_any (A : Option Addr) (n c : Nat) (l : List ByteArray) (w : World) (h : TxIs w A n c l) (h5 : n ≤ 100000) :
    Calls Try.prog 18 #[.slice A n c] w (CoIs l w) := by
  have CK := Lib.hid (check13_any A n c l w h)
  have CA := Lib.hid (fun W (hb : Below w.heap.size w W) => all13_any A n c l W (h.below hb) h5)
  have HC := Lib.hid (LM.chk_cases l)
  obtain ⟨y, hy⟩ : ∃ y, y = LM.chk l := ⟨_, rfl⟩
  unfold CoIs
  rw [← hy] at CK HC ⊢
  clear h hy
  rcases HC.out with rfl | rfl | rfl
  · go_enter Try.func18, Try.ntmps18
    go_wp2_with fail
    refine (CK.out).mono ?_
    rintro e w1 ⟨rfl, hb⟩
    have HB := Lib.hid hb
    clear hb CK
    go_wp2_with fail
    refine (CA.out _ HB.out).mono ?_
    rintro e w2 ⟨v, rfl, hv, hb⟩
    have HB2 := Lib.hid (bmore HB.out hb (Nat.le_refl _))
    have HV := Lib.hid (hv.mono HB.out.size)
    clear hb hv CA
    go_wp2_with fail
    go_ret2
    exact ⟨HB2.out, .inr ⟨by first | rfl | simp, v, by first | rfl | simp, HV.out⟩⟩
  all_goals
    go_enter Try.func18, Try.ntmps18
    go_wp2_with fail
    refine (CK.out).mono ?_
    rintro e w1 ⟨rfl, hb⟩
    have HB := Lib.hid hb
    clear hb CK
    go_wp2_with fail
    go_ret2
    exact ⟨HB.out, .inl ⟨by decide, rfl⟩⟩
theorem grp_cases {rs ms : List Int} {y : Int} (h : QM.GrpIs rs ms y) : y = 0 ∨ y = 4 ∨ y = 60 := by
  have chk : ∀ {l : List Int} {y : Int}, QM.ChkIs l y → y = 0 ∨ y = 4 ∨ y = 60 := fun h => by rcases h with ⟨_, h⟩ | ⟨_, _, h⟩ | ⟨_, h⟩ <;> simp [h]
  rcases h with ⟨h, _⟩ | ⟨_, h, _⟩ | ⟨_, _, h⟩
  · exact chk h
  · exact chk h
  · rw [h]; split <;> simp
set_option maxHeartbeats 4000000 in
theorem members13_any (A : Option Addr) (n c : Nat) (ros : List Int) (B : Option Addr) (m d : Nat) (ms : List Int) (C : Option Addr) (k e : Nat) (l : List ByteArray) (yg : Int) (w : World) (h1 : Rd w A n (ic ros)) (hn : n ≤ 100000) (h2 : Rd w B m (ic ms)) (hm : m ≤ 100000) (h3 : TxIs w C k e l) (hk : k ≤ 100000) (hy : QM.GrpIs ros ms yg) :
    Calls Try.prog 19 #[.agg #[.slice A n c, .slice B m d], .slice C k e] w (MbIs (if yg = 0 then LM.chk l else yg) ros ms l w) := by
  have CG := Lib.hid (fun W (hb : Below w.heap.size w W) => rCheckGroup_any A n c ros B m d ms yg W (h1.below hb) (by omega) (h2.below hb) (by omega) hy)
  have CK := Lib.hid (fun W (hb : Below w.heap.size w W) => check13_any C k e l W (h3.below hb))
  have CN := Lib.hid (fun W (hb : Below w.heap.size w W) => next13_any A n c ros B m d ms C k e l W (h1.below hb) hn (h2.below hb) hm (h3.below hb) hk)
  have HG := Lib.hid (grp_cases hy)
  have HC := Lib.hid (LM.chk_cases l)
  obtain ⟨y, hyy⟩ : ∃ y, y = LM.chk l := ⟨_, rfl⟩
  rw [← hyy] at CK HC ⊢
  obtain ⟨yy, hyz⟩ : ∃ yy, yy = if yg = 0 then y else yg := ⟨_, rfl⟩
  rw [← hyz]
  have HY := Lib.hid hyz
  clear hyz
  have HX := Lib.hid (Box.new w 33 #[.slice A n c, .slice B m d])
  have HB0 := Lib.hid (show Below w.heap.size w (w.alloc (.cells #[.slice A n c, .slice B m d] 33)) from (Below.refl _ _).alloc (Nat.le_refl _) _)
  clear h1 h2 h3 hy hyy
  go_enter Try.func19, Try.ntmps19
  go_upto_region 1 with (fail)
  generalize w.alloc (.cells #[.slice A n c, .slice B m d] 33) = w1 at HX HB0 ⊢
  have c0 := HX.out.cell 0
  have c1 := HX.out.cell 1
  simp at c0 c1
  go_wp2_with fail
  refine (CG.out _ HB0.out).mono ?_
  rintro x w2 ⟨rfl, hb⟩
  replace HX := Lib.hid (HX.out.below hb HX.out.lt)
  have HB := Lib.hid (bmore HB0.out hb (Nat.le_refl _))
  clear hb CG c0 c1 HB0
  rcases HG.out with rfl | rfl | rfl
  · go_wp2_with fail
    refine (CK.out _ HB.out).mono ?_
    rintro x w3 ⟨rfl, hb⟩
    replace HX := Lib.hid (HX.out.below hb HX.out.lt)
    replace HB := Lib.hid (bmore HB.out hb (Nat.le_refl _))
    clear hb CK
    have c0 := HX.out.cell 0
    have c1 := HX.out.cell 1
    simp at c0 c1
    rcases HC.out with rfl | rfl | rfl
    · go_wp2_with fail
      refine (CN.out _ HB.out).mono ?_
      rintro x w4 ⟨v, rfl, hv, hb⟩
      have HBF := Lib.hid (bmore HB.out hb (Nat.le_refl _))
      have HV := Lib.hid (MbG.of (own_base hv HB.out.size))
      clear hb hv CN
      go_wp2_with fail
      go_ret2
      rw [HY.out]
      exact ⟨HBF.out, .inr ⟨by simp, v, by simp, HV.out⟩⟩
    all_goals
      go_wp2_with fail
      go_ret2
      rw [HY.out]
      exact ⟨HB.out, .inl ⟨by simp, by simp⟩⟩
  all_goals
    go_wp2_with fail
    go_ret2
    rw [HY.out]
    exact ⟨HB.out, .inl ⟨by simp, by simp⟩⟩
set_option maxHeartbeats 2000000 in
theorem find13_any (A : Option Addr) (n c : Nat) (l : List ByteArray) (v : ByteArray) (w : World) (h : TxIs w A n c l) :
    Calls Try.prog 20 #[.slice A n c, .string v] w (FiIs l v w) := by
  have CK := Lib.hid (check13_any A n c l w h)
  have CP := Lib.hid (fun W (hb : Below w.heap.size w W) => place13_any A n c l v W (h.below hb))
  have HC := Lib.hid (LM.chk_cases l)
  obtain ⟨y, hy⟩ : ∃ y, y = LM.chk l := ⟨_, rfl⟩
  unfold FiIs
  rw [← hy] at CK HC ⊢
  clear h hy
  generalize LM.place l v = p at CP ⊢
  rcases HC.out with rfl | rfl | rfl
  · rw [if_pos rfl, if_pos rfl]
    have hp : decide ((0 : Int) < (p : Int)) = decide (0 < p) := by by_cases h : 0 < p <;> simp [h] <;> omega
    have HP := Lib.hid hp
    clear hp
    go_enter Try.func20, Try.ntmps20
    go_wp2_with fail
    refine (CK.out).mono ?_
    rintro e w1 ⟨rfl, hb⟩
    have HB := Lib.hid hb
    clear hb CK
    go_wp2_with fail
    refine (CP.out _ HB.out).mono ?_
    rintro e w2 ⟨rfl, rfl⟩
    go_wp2_with fail
    go_ret3
    exact ⟨HB.out, by first | rfl | (rw [← HP.out])⟩
  all_goals
    go_enter Try.func20, Try.ntmps20
    go_wp2_with fail
    refine (CK.out).mono ?_
    rintro e w1 ⟨rfl, hb⟩
    have HB := Lib.hid hb
    clear hb CK
    go_wp2_with fail
    go_ret3
    exact ⟨HB.out, rfl⟩
end Go.Proofs.Ytodmpapfnilkoaa.LP
