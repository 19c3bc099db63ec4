/-
  What the laws of package log stand on: texts that are handed on, told great, held against each other; what the calls answer in one form each. Conditions: the slices read as texts.
  The example that the statements of layer 13 begin with holds: members behind a change. Beside it: the laws' group and change. Conditions: as each theorem says.
-/
import Derived.Test.YtodmpapfnilkoaaK25
import Derived.Test.YtodmpapfnilkoaaK26
import Derived.Test.YtodmpapfnilkoaaK27
import Derived.Test.YtodmpapfnilkoaaK13
import Derived.Test.YtodmpapfnilkoaaK01
namespace Go.Proofs.Ytodmpapfnilkoaa.LP
open Go.RowKit CP
open CM (Cm Mg)
set_option linter.unusedVariables false
set_option linter.unusedSimpArgs false
set_option maxRecDepth 100000

theorem tcx_sc (l : List ByteArray) : tcx l = sc (l.map fun s => s.data.toList) := by simp [tcx, sc]
theorem tcx_one (l : List ByteArray) : ∀ u ∈ tcx l, u.oneCell' = true := by rw [tcx_sc]; exact sc_one _
theorem info_st : (Try.prog.info? 9).map (fun i => (i.zero, i.size, i.bytes)) = some (some (.string ⟨#[]⟩), 1, 16) := by kernel_rfl
theorem TxIs.small {w : World} {A : Option Addr} {n c : Nat} {l : List ByteArray} (h : TxIs w A n c l) : n ≤ 9223372036854775807 := by
  have h1 := h.2.1
  have h2 := h.2.2.1
  unfold maxLen at h2
  omega
theorem txIs_own {w : World} {base : Nat} {v : Value} {n : Nat} {l : List ByteArray} (h : w.ownsRow base 9 1 v n (tcx l)) (hl : ∀ s ∈ l, s.size ≤ maxLen) : ∃ A c, v = .slice A n c ∧ TxIs w A n c l := by
  obtain ⟨A, c, rfl, h1, h2⟩ := own_form h
  exact ⟨A, c, rfl, Rd.of_own h, h1, h2, hl⟩
theorem great13_any (A : Option Addr) (n c : Nat) (l : List ByteArray) (w : World) (h : TxIs w A n c l) :
    Calls Try.prog 16 #[.slice A n c] w (TGreatPost w n) :=
  tgreat_any A n c (l.map fun s => s.data.toList) w (by rw [← tcx_sc]; exact h.1) (by
    intro t ht
    obtain ⟨s, hs, rfl⟩ := List.mem_map.1 ht
    have := h.2.2.2 s hs
    unfold maxLen at this
    show s.data.toList.length ≤ _
    have e : s.data.toList.length = s.size := rfl
    omega) h.small
theorem sameT_any (A : Option Addr) (n c : Nat) (B : Option Addr) (d : Nat) (l : List ByteArray) (w : World) (h1 : TxIs w A n c l) (h2 : TxIs w B n d l) :
    Calls Try.prog 23 #[.slice A n c, .slice B n d] w (BoolIs true w) :=
  (same_texts A B n c d (l.map fun s => s.data.toList) w (by rw [← tcx_sc]; exact h1.1) (by rw [← tcx_sc]; exact h2.1) h1.small).mono (fun e w' (k : _ ∧ _) => show BoolIs true w e w' from ⟨k.1, by
    have := k.2
    first
    | (obtain ⟨q, hq⟩ := this; rw [hq]; exact below_drewN (Below.refl _ _) _)
    | (subst this; exact Below.refl _ _)⟩)
/-- Commands' answer in one form -/
def csz (l : List ByteArray) : List Cm := if LM.chk l = 0 then LM.cmds l else []
def CoU (l : List ByteArray) (w : World) (x : Ending) (w' : World) : Prop := ∃ v, x = .returned (.tuple #[v, .int .i64 (LM.chk l)]) ∧ CmsO w' w.heap.size v (csz l) ∧ Below w.heap.size w w'
theorem CoIs.u {l : List ByteArray} {w w' : World} {x : Ending} (h : CoIs l w x w') : CoU l w x w' := by
  obtain ⟨hb, ⟨h0, rfl⟩ | ⟨h0, v, rfl, hv⟩⟩ := h
  · exact ⟨_, rfl, by unfold csz; rw [if_neg h0]; exact cmsO_nil _ _, hb⟩
  · exact ⟨v, by rw [h0], by unfold csz; rw [if_pos h0]; exact hv, hb⟩
/-- Members' answer in one form -/
def mbz (y : Int) (ros ms : List Int) (l : List ByteArray) : List Int := if y = 0 then LM.next ros ms (LM.cmds l) else []
def MbU (y : Int) (ros ms : List Int) (l : List ByteArray) (w : World) (x : Ending) (w' : World) : Prop := ∃ v, x = .returned (.tuple #[v, .int .i64 y]) ∧ MbG w' w.heap.size v (mbz y ros ms l) ∧ Below w.heap.size w w'
theorem MbIs.u {y : Int} {ros ms : List Int} {l : List ByteArray} {w w' : World} {x : Ending} (h : MbIs y ros ms l w x w') : MbU y ros ms l w x w' := by
  obtain ⟨hb, ⟨h0, rfl⟩ | ⟨h0, v, rfl, hv⟩⟩ := h
  · exact ⟨_, rfl, by unfold mbz; rw [if_neg h0]; exact MbG.of (World.ownsRow_nil _ _ _ _), hb⟩
  · exact ⟨v, by rw [h0], by unfold mbz; rw [if_pos h0]; exact hv, hb⟩
/-- what is asked of package log's Members -/
def PMem : Prop := ∀ (A : Option Addr) (n c : Nat) (ros : List Int) (B : Option Addr) (m d : Nat) (ms : List Int) (C : Option Addr) (k e : Nat) (l : List ByteArray) (yg : Int) (w : World), Rd w A n (ic ros) → n ≤ maxLen → Rd w B m (ic ms) → m ≤ maxLen → TxIs w C k e l → QM.GrpIs ros ms yg →
    Calls Try.prog 8 #[.agg #[.slice A n c, .slice B m d], .slice C k e] w (MbIs (if yg = 0 then LM.chk l else yg) ros ms l w)

/-- the answers, once their parts are letters -/
def CoV (y : Int) (cs : List Cm) (w : World) (x : Ending) (w' : World) : Prop := ∃ v, x = .returned (.tuple #[v, .int .i64 y]) ∧ CmsO w' w.heap.size v cs ∧ Below w.heap.size w w'
def MbV (y : Int) (mz : List Int) (w : World) (x : Ending) (w' : World) : Prop := ∃ v, x = .returned (.tuple #[v, .int .i64 y]) ∧ MbG w' w.heap.size v mz ∧ Below w.heap.size w w'
def FiV (p : Int) (b : Bool) (y : Int) (w : World) (x : Ending) (w' : World) : Prop := x = .returned (.tuple #[.int .i64 p, .bool b, .int .i64 y]) ∧ Below w.heap.size w w'
theorem commandsV (A : Option Addr) (n c : Nat) (l : List ByteArray) (w : World) (h : TxIs w A n c l) :
    Calls Try.prog 12 #[.slice A n c] w (CoV (LM.chk l) (csz l) w) := (pcommands_any A n c l w h).mono fun _ _ k => CoIs.u k
theorem commands13V (A : Option Addr) (n c : Nat) (l : List ByteArray) (w : World) (h : TxIs w A n c l) (h5 : n ≤ 100000) :
    Calls Try.prog 18 #[.slice A n c] w (CoV (LM.chk l) (csz l) w) := (commands13_any A n c l w h h5).mono fun _ _ k => CoIs.u k
theorem membersV (PM : PMem) (v : Value) (ros ms : List Int) (C : Option Addr) (k e : Nat) (l : List ByteArray) (yg : Int) (w : World) (h1 : GpIs w v ros ms) (h3 : TxIs w C k e l) (hy : QM.GrpIs ros ms yg) :
    Calls Try.prog 8 #[v, .slice C k e] w (MbV (if yg = 0 then LM.chk l else yg) (mbz (if yg = 0 then LM.chk l else yg) ros ms l) w) := by
  obtain ⟨A, c, B, d, rfl, a1, a2⟩ := h1
  exact (PM A _ c ros B _ d ms C k e l yg w a1.1 (Nat.le_trans a1.2.1 a1.2.2) a2.1 (Nat.le_trans a2.2.1 a2.2.2) h3 hy).mono fun _ _ k => MbIs.u k
theorem members13V (v : Value) (ros ms : List Int) (C : Option Addr) (k e : Nat) (l : List ByteArray) (yg : Int) (w : World) (h1 : GpIs w v ros ms) (f1 : ros.length ≤ 100000) (f2 : ms.length ≤ 100000) (h3 : TxIs w C k e l) (hk : k ≤ 100000) (hy : QM.GrpIs ros ms yg) :
    Calls Try.prog 19 #[v, .slice C k e] w (MbV (if yg = 0 then LM.chk l else yg) (mbz (if yg = 0 then LM.chk l else yg) ros ms l) w) := by
  obtain ⟨A, c, B, d, rfl, a1, a2⟩ := h1
  exact (members13_any A _ c ros B _ d ms C k e l yg w a1.1 f1 a2.1 f2 h3 hk hy).mono fun _ _ k => MbIs.u k
theorem findV (A : Option Addr) (n c : Nat) (l : List ByteArray) (v : ByteArray) (w : World) (h : TxIs w A n c l) :
    Calls Try.prog 10 #[.slice A n c, .string v] w (FiV (if LM.chk l = 0 then (LM.place l v : Nat) else 0 : Int) (if LM.chk l = 0 then decide (0 < LM.place l v) else false) (LM.chk l) w) := (pfind_any A n c l v w h).mono fun _ _ k => ⟨k.2, k.1⟩
theorem find13V (A : Option Addr) (n c : Nat) (l : List ByteArray) (v : ByteArray) (w : World) (h : TxIs w A n c l) :
    Calls Try.prog 20 #[.slice A n c, .string v] w (FiV (if LM.chk l = 0 then (LM.place l v : Nat) else 0 : Int) (if LM.chk l = 0 then decide (0 < LM.place l v) else false) (LM.chk l) w) := (find13_any A n c l v w h).mono fun _ _ k => ⟨k.2, k.1⟩
/-- commands in a row, as a walk reads them -/
def Rw (W : World) (AA : Option Addr) (es : List El) : Prop := ∀ p e, es[p]? = some e → ∃ b off, AA = some ⟨b, off, none⟩ ∧ b < W.heap.size ∧ At12 W b (off + p * 12) e ∧ RowIs W e.A e.c e.x.m.gs ∧ RowIs W e.B e.d e.x.ms
theorem Rw.below {W W' : World} {AA : Option Addr} {es : List El} (h : Rw W AA es) (hb : Below W.heap.size W W') : Rw W' AA es := fun p e hp => by
  obtain ⟨b, off, e1, h1, h2, h3, h4⟩ := h p e hp
  exact ⟨b, off, e1, Nat.lt_of_lt_of_le h1 hb.size, h2.below h1 hb, h3.below hb, h4.below hb⟩
theorem rw_of {W : World} {b : Nat} {v : Value} {cs : List Cm} (h : CmsO W b v cs) : ∃ AA cap es, v = .slice AA cs.length cap ∧ es.map (fun e : El => e.x) = cs ∧ Rw W AA es := by
  obtain ⟨es, h1, h2, h3⟩ := cmsO_row h
  obtain ⟨AA, cap, h4, h5⟩ := h2.any
  have hl : es.length = cs.length := by rw [← h1, List.length_map]
  refine ⟨AA, cap, es, by rw [h4, hl], h1, fun p e hp => ?_⟩
  obtain ⟨b, off, e1, hb, hat⟩ := h5 p e hp
  obtain ⟨r1, r2, _⟩ := h3 e (List.mem_of_getElem? hp)
  exact ⟨b, off, e1, hb, hat, r1, r2⟩
theorem mb_form {W : World} {b : Nat} {v : Value} {mz : List Int} (h : MbG W b v mz) : ∃ M c, v = .slice M mz.length c ∧ RowIs W M c mz ∧ Tn b W M mz.length := by
  obtain ⟨M, c, rfl, h1⟩ := h
  exact ⟨M, c, rfl, h1.1, h1.3⟩
end Go.Proofs.Ytodmpapfnilkoaa.LP

namespace Go.Proofs.Ytodmpapfnilkoaa.LP
open Go.RowKit CP
open CM (Cm Mg)
set_option linter.unusedVariables false
set_option linter.unusedSimpArgs false
set_option maxRecDepth 100000

/-- a change to members ms -/
def chg (ms : List Int) : Cm := ⟨3, CM.mz, 0, 0, ms, 0, 0, 0⟩
theorem fit_chg (ms : List Int) : CmFit (chg ms) := ⟨⟨by show (0 : Int) ≤ 3; decide, by show (3 : Int) ≤ 255; decide⟩, fit_mz, in_zero, in_zero, in_zero, in_zero, in_zero⟩
theorem may_chg {ms : List Int} (h : QM.may ms = true) : CM.may (chg ms) := .inr (.inr (.inr (.inl ⟨rfl, rfl, rfl, rfl, h, rfl, rfl, rfl⟩)))
/-- what a command is written as -/
def txt (c : Cm) : ByteArray := ⟨(CM.wr c).toArray⟩
theorem bsz_txt (c : Cm) : RM.bsz (txt c) = CM.wr c := rfl
theorem cm_txt {c : Cm} (h : CM.may c) : LM.cm (txt c) = c ∧ LM.er (txt c) = 0 := LM.cm_wr h (bsz_txt c)
/-- what 'change' answers -/
def TxtIs (c : Cm) (w : World) (e : Ending) (w' : World) : Prop := e = .returned (.string (txt c)) ∧ Below w.heap.size w w'
set_option maxHeartbeats 1000000 in
theorem change13_any (A : Option Addr) (c : Nat) (ms : List Int) (w : World) (h : RowIs w A c ms) (hm : QM.may ms = true) :
    Calls Try.prog 11 #[.slice A ms.length c] w (TxtIs (chg ms) w) := by
  have KW := Lib.hid (show Calls Try.prog 7 #[.agg #[.int .u8 3, .int .i64 0, .slice none 0 0, .int .i64 0, .string ⟨#[]⟩, .string ⟨#[]⟩, .int .i64 0, .int .i64 0, .slice A ms.length c, .int .i64 0, .int .i64 0, .int .i64 0]] w (fun e w' => e = .returned (.tuple #[.string (txt (chg ms)), .int .i64 0]) ∧ Below w.heap.size w w') by
    have := pwrite_any (chg ms) (.agg #[.int .u8 3, .int .i64 0, .slice none 0 0, .int .i64 0, .string ⟨#[]⟩, .string ⟨#[]⟩, .int .i64 0, .int .i64 0, .slice A ms.length c, .int .i64 0, .int .i64 0, .int .i64 0]) w
      ⟨none, 0, A, c, rfl, ⟨⟨rfl, fun h => absurd h (by show ¬ 0 < 0; omega)⟩, Nat.le_refl _, Nat.zero_le _⟩, h⟩ (fit_chg ms)
    unfold WrIs at this
    rw [if_pos (may_chg hm), if_pos (may_chg hm)] at this
    exact this)
  unfold TxtIs
  generalize txt (chg ms) = t at KW ⊢
  clear h hm
  go_enter Try.func11, Try.ntmps11
  go_wp2_with fail
  refine (KW.out).mono ?_
  rintro e w1 ⟨rfl, hb⟩
  have HB := Lib.hid hb
  clear hb KW
  go_wp2_with fail
  go_ret
  exact ⟨rfl, HB.out⟩
theorem row_lit (w : World) (xs : Array Value) (l : List Int) (n : Nat) (hx : xs = (ic l).toArray) (hn : l.length = n) (hm : n ≤ 4096) : RowIs (w.alloc (.cells xs 3)) (some ⟨w.heap.size, 0, none⟩) n l := by
  subst hx
  subst hn
  have := rd_row w (ic l) 3
  rw [ic_length] at this
  exact ⟨this, Nat.le_refl _, by unfold maxLen; omega⟩
theorem tx_lit (w : World) (xs : Array Value) (l : List ByteArray) (n : Nat) (hx : xs = (tcx l).toArray) (hn : l.length = n) (hm : n ≤ 4096) (hs : ∀ s ∈ l, s.size ≤ maxLen) : TxIs (w.alloc (.cells xs 9)) (some ⟨w.heap.size, 0, none⟩) n n l := by
  subst hx
  subst hn
  have := rd_row w (tcx l) 9
  rw [tcx_len] at this
  exact ⟨this, Nat.le_refl _, by unfold maxLen; omega, hs⟩
set_option maxHeartbeats 2000000 in
theorem group13_any (w : World) : Calls Try.prog 9 #[] w fun e w' => ∃ v, e = .returned v ∧ GpIs w' v [0, 1, 2, 3] [0, 1, 2] ∧ Below w.heap.size w w' := by
  have H1 : Hid (Below w.heap.size w (((w.alloc (.cells #[.slice (some ⟨w.heap.size + 1, 0, none⟩) 4 4, .slice (some ⟨w.heap.size + 1 + 1, 0, none⟩) 3 3] 33)).alloc (.cells #[.int .i64 0, .int .i64 1, .int .i64 2, .int .i64 3] 3)).alloc (.cells #[.int .i64 0, .int .i64 1, .int .i64 2] 3))) := Lib.hid ((((Below.refl _ _).alloc (Nat.le_refl _) _).alloc (by simp) _).alloc (by simp; omega) _)
  have H2 : Hid (Box (((w.alloc (.cells #[.slice (some ⟨w.heap.size + 1, 0, none⟩) 4 4, .slice (some ⟨w.heap.size + 1 + 1, 0, none⟩) 3 3] 33)).alloc (.cells #[.int .i64 0, .int .i64 1, .int .i64 2, .int .i64 3] 3)).alloc (.cells #[.int .i64 0, .int .i64 1, .int .i64 2] 3)) w.heap.size 33 #[.slice (some ⟨w.heap.size + 1, 0, none⟩) 4 4, .slice (some ⟨w.heap.size + 1 + 1, 0, none⟩) 3 3]) := Lib.hid (((Box.new _ _ _).alloc _).alloc _)
  have H3 : Hid (RowIs (((w.alloc (.cells #[.slice (some ⟨w.heap.size + 1, 0, none⟩) 4 4, .slice (some ⟨w.heap.size + 1 + 1, 0, none⟩) 3 3] 33)).alloc (.cells #[.int .i64 0, .int .i64 1, .int .i64 2, .int .i64 3] 3)).alloc (.cells #[.int .i64 0, .int .i64 1, .int .i64 2] 3)) (some ⟨w.heap.size + 1, 0, none⟩) 4 [0, 1, 2, 3]) := Lib.hid ((show RowIs _ (some ⟨w.heap.size + 1, 0, none⟩) 4 [0, 1, 2, 3] by
    have := row_lit (w.alloc (.cells #[.slice (some ⟨w.heap.size + 1, 0, none⟩) 4 4, .slice (some ⟨w.heap.size + 1 + 1, 0, none⟩) 3 3] 33)) #[.int .i64 0, .int .i64 1, .int .i64 2, .int .i64 3] [0, 1, 2, 3] 4 rfl rfl (by omega)
    rw [World.size_alloc] at this
    exact this).below ((Below.refl _ _).alloc (Nat.le_refl _) _))
  have H4 : Hid (RowIs (((w.alloc (.cells #[.slice (some ⟨w.heap.size + 1, 0, none⟩) 4 4, .slice (some ⟨w.heap.size + 1 + 1, 0, none⟩) 3 3] 33)).alloc (.cells #[.int .i64 0, .int .i64 1, .int .i64 2, .int .i64 3] 3)).alloc (.cells #[.int .i64 0, .int .i64 1, .int .i64 2] 3)) (some ⟨w.heap.size + 1 + 1, 0, none⟩) 3 [0, 1, 2]) := Lib.hid (by
    have := row_lit ((w.alloc (.cells #[.slice (some ⟨w.heap.size + 1, 0, none⟩) 4 4, .slice (some ⟨w.heap.size + 1 + 1, 0, none⟩) 3 3] 33)).alloc (.cells #[.int .i64 0, .int .i64 1, .int .i64 2, .int .i64 3] 3)) #[.int .i64 0, .int .i64 1, .int .i64 2] [0, 1, 2] 3 rfl rfl (by omega)
    rw [World.size_alloc, World.size_alloc] at this
    exact this)
  go_enter Try.func9, Try.ntmps9
  go_wp2_with fail
  have e0 := H2.out.cell 0
  have e1 := H2.out.cell 1
  simp only [List.getElem?_toArray, List.getElem?_cons_zero, List.getElem?_cons_succ] at e0 e1
  exact bodyPost_ret (v := .agg #[.slice (some ⟨w.heap.size + 1, 0, none⟩) 4 4, .slice (some ⟨w.heap.size + 1 + 1, 0, none⟩) 3 3]) (by simp [results, Try.results9, go_sem, e0, e1]) rfl
    ⟨_, rfl, ⟨_, _, _, _, rfl, H3.out, H4.out⟩, H1.out⟩
/-- the example's members -/
theorem may_13 : QM.may [1, 3] = true := by decide +kernel
theorem may_45 : QM.may [4, 5] = true := by decide +kernel
theorem grp13 : QM.GrpIs [0, 1, 2, 3] [0, 1, 2] 0 := .inr (.inr ⟨.inr (.inr ⟨by decide, rfl⟩), .inr (.inr ⟨by decide, rfl⟩), by rw [if_pos (by decide)]⟩)
theorem alive_chk : LM.chk [txt (chg [1, 3]), txt (chg [4, 5])] = 0 := LM.chk_zero.2 ⟨by decide, fun s hs => by
  rcases List.mem_cons.1 hs with rfl | hs
  · exact (cm_txt (may_chg may_13)).2
  · obtain rfl := List.mem_singleton.1 hs
    exact (cm_txt (may_chg may_45)).2⟩
theorem alive_next : LM.next [0, 1, 2, 3] [0, 1, 2] (LM.cmds [txt (chg [1, 3]), txt (chg [4, 5])]) = [1, 3] := by
  show LM.next _ _ [LM.cm (txt (chg [1, 3])), LM.cm (txt (chg [4, 5]))] = _
  rw [(cm_txt (may_chg may_13)).1, (cm_txt (may_chg may_45)).1]
  decide +kernel
theorem txt_size {c : Cm} (h : (CM.wr c).length ≤ 4096) : (txt c).size ≤ maxLen := by
  have e : (txt c).size = (CM.wr c).length := rfl
  rw [e]; unfold maxLen; omega
theorem wr_len_13 : (CM.wr (chg [1, 3])).length ≤ 4096 := by decide +kernel
theorem wr_len_45 : (CM.wr (chg [4, 5])).length ≤ 4096 := by decide +kernel
set_option maxHeartbeats 4000000 in
theorem alive13_any (PM : PMem) (w : World) : Calls Try.prog 13 #[] w (BoolIs true w) := by
  have KM := Lib.hid (fun W v C e (h1 : GpIs W v [0, 1, 2, 3] [0, 1, 2]) (h3 : TxIs W C 2 e [txt (chg [1, 3]), txt (chg [4, 5])]) => (show Calls _ _ _ W (MbV 0 [1, 3] W) by
    have := membersV PM v [0, 1, 2, 3] [0, 1, 2] C 2 e _ 0 W h1 h3 grp13
    rw [if_pos rfl, alive_chk] at this
    unfold mbz at this
    rw [if_pos rfl, alive_next] at this
    exact this))
  have hs : ∀ s ∈ [txt (chg [1, 3]), txt (chg [4, 5])], s.size ≤ maxLen := fun s hs => by
    rcases List.mem_cons.1 hs with rfl | hs
    · exact txt_size wr_len_13
    · obtain rfl := List.mem_singleton.1 hs
      exact txt_size wr_len_45
  have K1 := Lib.hid (fun W A (h : RowIs W A 2 [1, 3]) => change13_any A 2 [1, 3] W h may_13)
  have K2 := Lib.hid (fun W A (h : RowIs W A 2 [4, 5]) => change13_any A 2 [4, 5] W h may_45)
  unfold TxtIs at K1 K2
  generalize txt (chg [1, 3]) = s1 at KM hs K1
  generalize txt (chg [4, 5]) = s2 at KM hs K2
  have HSs := Lib.hid hs
  clear hs
  go_enter Try.func13, Try.ntmps13
  go_wp2_with fail
  refine (group13_any w).mono ?_
  rintro e w1 ⟨gv, rfl, hg, hb⟩
  obtain ⟨G, cg, H, dh, rfl, q1, q2⟩ := hg
  have HG := Lib.hid (fun W (hb : Below w1.heap.size w1 W) => (show GpIs W (.agg #[.slice G 4 cg, .slice H 3 dh]) [0, 1, 2, 3] [0, 1, 2] from ⟨G, cg, H, dh, rfl, q1.below hb, q2.below hb⟩))
  have HB := Lib.hid hb
  clear hb q1 q2
  simp only [List.length_cons, List.length_nil, Nat.reduceAdd]
  have r1 := row_lit w1 #[.int .i64 1, .int .i64 3] [1, 3] 2 rfl rfl (by omega)
  have HR1 := Lib.hid r1
  have HL := Lib.hid (show Below w1.heap.size w1 (w1.alloc (.cells #[.int .i64 1, .int .i64 3] 3)) from (Below.refl _ _).alloc (Nat.le_refl _) _)
  clear r1
  go_wp2_with fail
  generalize w1.alloc (.cells #[.int .i64 1, .int .i64 3] 3) = w2 at HR1 HL ⊢
  refine (K1.out w2 _ HR1.out).mono ?_
  rintro e w3 ⟨rfl, hb⟩
  have r2 := row_lit w3 #[.int .i64 4, .int .i64 5] [4, 5] 2 rfl rfl (by omega)
  have HR2 := Lib.hid r2
  replace HL := Lib.hid ((bmore HL.out hb (Nat.le_refl _)).alloc (by have := hb.size; have := HL.out.size; omega) (.cells #[.int .i64 4, .int .i64 5] 3))
  clear r2 hb K1 HR1
  go_wp2_with fail
  generalize w3.alloc (.cells #[.int .i64 4, .int .i64 5] 3) = w4 at HR2 HL ⊢
  refine (K2.out w4 _ HR2.out).mono ?_
  rintro e w5 ⟨rfl, hb⟩
  have r3 := tx_lit w5 #[.string s1, .string s2] [s1, s2] 2 rfl rfl (by omega) HSs.out
  have HR3 := Lib.hid r3
  replace HL := Lib.hid ((bmore HL.out hb (Nat.le_refl _)).alloc (by have := hb.size; have := HL.out.size; omega) (.cells #[.string s1, .string s2] 9))
  clear r3 hb K2 HR2
  go_wp2_with fail
  generalize w5.alloc (.cells #[.string s1, .string s2] 9) = w6 at HR3 HL ⊢
  refine (KM.out w6 _ _ _ (HG.out _ HL.out) HR3.out).mono ?_
  rintro e w7 ⟨vm, rfl, hm, hb⟩
  obtain ⟨M, cm, rfl, hrm, _⟩ := mb_form hm
  have r4 := row_lit w7 #[.int .i64 1, .int .i64 3] [1, 3] 2 rfl rfl (by omega)
  have HR4 := Lib.hid r4
  have HRM := Lib.hid (hrm.below (show Below w7.heap.size w7 (w7.alloc (.cells #[.int .i64 1, .int .i64 3] 3)) from (Below.refl _ _).alloc (Nat.le_refl _) _))
  replace HL := Lib.hid ((bmore HL.out hb (Nat.le_refl _)).alloc (by have := hb.size; have := HL.out.size; omega) (.cells #[.int .i64 1, .int .i64 3] 3))
  clear r4 hb KM HR3 hm hrm
  simp only [List.length_cons, List.length_nil, Nat.reduceAdd]
  go_wp2_with fail
  generalize w7.alloc (.cells #[.int .i64 1, .int .i64 3] 3) = w8 at HR4 HL HRM ⊢
  refine (same_ints_any M _ cm 2 [1, 3] [1, 3] w8 HRM.out.1 HR4.out.1 (by unfold maxLen; decide) (by unfold maxLen; decide)).mono ?_
  rintro e w9 ⟨rfl, hb⟩
  replace HL := Lib.hid (bmore HL.out hb (Nat.le_refl _))
  clear hb
  go_wp2_with fail
  go_ret
  exact ⟨by rfl, bmore HB.out HL.out (Nat.le_refl _)⟩
end Go.Proofs.Ytodmpapfnilkoaa.LP
