/- Contracts of functions of towncrier, layers 5 to 9, and of the document's own ones, part 40; each as its theorem says. -/
import Derived.Test.YtiiobafcgdelmaaGreatL01
import Derived.Test.YtiiobafcgdelmaaGreatL26
import Derived.Test.YtiiobafcgdelmaaGreatL13
import Derived.Test.YtiiobafcgdelmaaGreatL33
import Derived.Deep.DeepCutAuto
import Derived.Test.YtiiobafcgdelmaaGreatL39
set_option linter.unusedVariables false
set_option linter.unusedSimpArgs false
namespace Go.Proofs.YtiiobafcgdelmaaGreat
open Go.RowKit
def NumPost (y : Int) (w : World) (e : Ending) (w' : World) : Prop := e = .returned (.int .i64 y) ∧ ∃ q, w' = w.drewN q
theorem rqCheck_any (A : Option Addr) (n c : Nat) (zs : List Int) (y : Int) (w : World) (hr : Rd w A n (ic zs)) (hm : n ≤ 9223372036854775807) (hy : QM.ChkIs zs y) :
  Calls Tryz.prog 50 #[.slice A n c] w (NumPost y w) := by
 have hl : zs.length = n := by have := hr.1; rwa [ic_length] at this
 have h := rMay_any A n c zs w hr hm
 rcases hy with ⟨h6, rfl⟩ | ⟨h6, hf, rfl⟩ | ⟨ht, rfl⟩
 ·rw [hl] at h6
  clear h hl
  go_enter Tryz.func50, Tryz.ntmps50
  go_wp2
  go_ret
  exact ⟨rfl, 0, rfl⟩
 ·rw [hl] at h6
  rw [hf] at h
  have H := h! h
  clear h hl hf
  go_enter Tryz.func50, Tryz.ntmps50
  go_wp2_with fail
  refine H.out.mono ?_
  rintro e w1 ⟨rfl, q, rfl⟩
  go_wp2
  go_ret
  exact ⟨rfl, q, rfl⟩
 ·obtain ⟨_, h2, _⟩ := QM.may_len ht
  rw [hl] at h2
  rw [ht] at h
  have H := h! h
  clear h hl ht
  go_enter Tryz.func50, Tryz.ntmps50
  go_wp2_with fail
  refine H.out.mono ?_
  rintro e w1 ⟨rfl, q, rfl⟩
  go_wp2
  go_ret
  exact ⟨rfl, q, rfl⟩
set_option maxRecDepth 100000 in
set_option maxHeartbeats 2000000 in
theorem rbegin_1 (A : Option Addr) (n c : Nat) (ms : List Int) (ba : Int) (wi : ByteArray) (w : World) (hr : Rd w A n (ic ms)) (hl : ms.length ≤ 2000) (hs : wi.size ≤ maxLen) (y : Int) (hc : QM.ChkIs ms y) (h0 : y ≠ 0) :
  Calls Tryz.prog 57 #[.slice A n c, .int .i64 ba, .string wi] w (ErrRet AM.zero y w) := by
 unfold maxLen at hs
 obtain ⟨W0, hW0⟩ : ∃ W0, W0 = w.alloc (.cells #[.int .u8 0, .int .i64 0, .slice none 0 0, .string ⟨#[]⟩, .string ⟨#[]⟩, .slice none 0 0, .slice none 0 0] 57) := ⟨_, rfl⟩
 have hb0 : Below w.heap.size w W0 := by rw [hW0]; exact (Below.refl _ _).alloc n! _
 have hz0 : Box W0 w.heap.size 57 #[.int .u8 0, .int .i64 0, .slice none 0 0, .string ⟨#[]⟩, .string ⟨#[]⟩, .slice none 0 0, .slice none 0 0] := by rw [hW0]; exact Box.new _ _ _
 have hm : n ≤ 9223372036854775807 := by have := hr.1; rw [ic_length] at this; omega
 have B0 := h! hb0
 have Z0 := h! hz0
 have hs0 : W0.heap.size = w.heap.size + 1 := by rw [hW0]; simp
 have HC := h! (rqCheck_any A n c ms y W0 (hr.below hb0) hm hc)
 have q2 : (y == 0) = false := by simpa using h0
 have q3 : (y != 0) = true := by simpa using h0
 clear hr hc hb0 hz0 h0
 go_enter Tryz.func57, Tryz.ntmps57
 go_wp2_with fail
 rw [← hW0]
 clear hW0
 refine HC.out.mono ?_
 rintro e w1 ⟨rfl, q1, rfl⟩
 have qx := Box.put7 (w := W0.drewN q1) Z0.out (.int .u8 0) (.int .i64 0) (.slice none 0 0) (.string ⟨#[]⟩) (.string ⟨#[]⟩) (.slice none 0 0) (.slice none 0 0)
 have qb := below_put7 (below_drewN B0.out q1) (g := w.heap.size) n! (.int .u8 0) (.int .i64 0) (.slice none 0 0) (.string ⟨#[]⟩) (.string ⟨#[]⟩) (.slice none 0 0) (.slice none 0 0)
 unfold put7 at qx qb
 have HQX := h! qx
 have HQB := h! qb
 obtain ⟨_, z0, z1, z2, z3, z4, z5, z6⟩ := Z0.out.seven
 clear qx qb
 go_wp2_with fail
 obtain ⟨⟨d0, d1, d2, d3, d4, d5, d6⟩, _⟩ := HQX.out.seven
 exact bodyPost_ret (v := .tuple #[.agg #[.int .u8 0, .int .i64 0, .slice none 0 0, .string ⟨#[]⟩, .string ⟨#[]⟩, .slice none 0 0, .slice none 0 0], .int .i64 y]) (by simp [results, Tryz.results57, go_sem, d0, d1, d2, d3, d4, d5, d6]) rfl ⟨_, rfl, AtOwn.zero _ _, HQB.out⟩
set_option maxRecDepth 100000 in
set_option maxHeartbeats 2000000 in
theorem rbegin_2 (A : Option Addr) (n c : Nat) (ms : List Int) (ba : Int) (wi : ByteArray) (w : World) (hr : Rd w A n (ic ms)) (hl : ms.length ≤ 2000) (hs : wi.size ≤ maxLen) (hc : QM.ChkIs ms 0) (hg : ¬ BM.good ba) :
  Calls Tryz.prog 57 #[.slice A n c, .int .i64 ba, .string wi] w (ErrRet AM.zero 50 w) := by
 unfold maxLen at hs
 obtain ⟨W0, hW0⟩ : ∃ W0, W0 = w.alloc (.cells #[.int .u8 0, .int .i64 0, .slice none 0 0, .string ⟨#[]⟩, .string ⟨#[]⟩, .slice none 0 0, .slice none 0 0] 57) := ⟨_, rfl⟩
 have hb0 : Below w.heap.size w W0 := by rw [hW0]; exact (Below.refl _ _).alloc n! _
 have hz0 : Box W0 w.heap.size 57 #[.int .u8 0, .int .i64 0, .slice none 0 0, .string ⟨#[]⟩, .string ⟨#[]⟩, .slice none 0 0, .slice none 0 0] := by rw [hW0]; exact Box.new _ _ _
 have hm : n ≤ 9223372036854775807 := by have := hr.1; rw [ic_length] at this; omega
 have B0 := h! hb0
 have Z0 := h! hz0
 have hs0 : W0.heap.size = w.heap.size + 1 := by rw [hW0]; simp
 have HC := h! (rqCheck_any A n c ms 0 W0 (hr.below hb0) hm hc)
 have HD := h! (fun W => rCheck_any (show BM.OfIs ba 0 0 50 from .inr ⟨hg, rfl, rfl, rfl⟩) W)
 clear hr hc hb0 hz0 hg
 go_enter Tryz.func57, Tryz.ntmps57
 go_wp2_with fail
 rw [← hW0]
 clear hW0
 refine HC.out.mono ?_
 rintro e w1 ⟨rfl, q1, rfl⟩
 go_wp2_with fail
 refine (HD.out _).mono ?_
 rintro e w1 ⟨rfl, rfl⟩
 have qx := Box.put7 (w := W0.drewN q1) Z0.out (.int .u8 0) (.int .i64 0) (.slice none 0 0) (.string ⟨#[]⟩) (.string ⟨#[]⟩) (.slice none 0 0) (.slice none 0 0)
 have qb := below_put7 (below_drewN B0.out q1) (g := w.heap.size) n! (.int .u8 0) (.int .i64 0) (.slice none 0 0) (.string ⟨#[]⟩) (.string ⟨#[]⟩) (.slice none 0 0) (.slice none 0 0)
 unfold put7 at qx qb
 have HQX := h! qx
 have HQB := h! qb
 obtain ⟨_, z0, z1, z2, z3, z4, z5, z6⟩ := Z0.out.seven
 clear qx qb
 go_wp2_with fail
 obtain ⟨⟨d0, d1, d2, d3, d4, d5, d6⟩, _⟩ := HQX.out.seven
 exact bodyPost_ret (v := .tuple #[.agg #[.int .u8 0, .int .i64 0, .slice none 0 0, .string ⟨#[]⟩, .string ⟨#[]⟩, .slice none 0 0, .slice none 0 0], .int .i64 50]) (by simp [results, Tryz.results57, go_sem, d0, d1, d2, d3, d4, d5, d6]) rfl ⟨_, rfl, AtOwn.zero _ _, HQB.out⟩
set_option maxRecDepth 100000 in
set_option maxHeartbeats 2000000 in
theorem rbegin_3 (A : Option Addr) (n c : Nat) (ms : List Int) (ba : Int) (wi : ByteArray) (w : World) (hr : Rd w A n (ic ms)) (hl : ms.length ≤ 2000) (hs : wi.size ≤ maxLen) (hc : QM.ChkIs ms 0) (hg : BM.good ba) (hw : 1024 < wi.size) :
  Calls Tryz.prog 57 #[.slice A n c, .int .i64 ba, .string wi] w (ErrRet AM.zero 3 w) := by
 unfold maxLen at hs
 obtain ⟨W0, hW0⟩ : ∃ W0, W0 = w.alloc (.cells #[.int .u8 0, .int .i64 0, .slice none 0 0, .string ⟨#[]⟩, .string ⟨#[]⟩, .slice none 0 0, .slice none 0 0] 57) := ⟨_, rfl⟩
 have hb0 : Below w.heap.size w W0 := by rw [hW0]; exact (Below.refl _ _).alloc n! _
 have hz0 : Box W0 w.heap.size 57 #[.int .u8 0, .int .i64 0, .slice none 0 0, .string ⟨#[]⟩, .string ⟨#[]⟩, .slice none 0 0, .slice none 0 0] := by rw [hW0]; exact Box.new _ _ _
 have hm : n ≤ 9223372036854775807 := by have := hr.1; rw [ic_length] at this; omega
 have B0 := h! hb0
 have Z0 := h! hz0
 have hs0 : W0.heap.size = w.heap.size + 1 := by rw [hW0]; simp
 have HC := h! (rqCheck_any A n c ms 0 W0 (hr.below hb0) hm hc)
 have HD := h! (fun W => rCheck_any (show BM.OfIs ba (ba / 8) (ba % 8) 0 from .inl ⟨hg, rfl, rfl, rfl⟩) W)
 have k1 : decide ((1024 : Int) < (wi.size : Int)) = true := by simp; omega
 have k2 : decide (1024 < wi.size) = true := by simp; omega
 have k3 : (1024 : Int) < (wi.size : Int) := by omega
 clear hr hc hb0 hz0 hg
 go_enter Tryz.func57, Tryz.ntmps57
 go_wp2_with fail
 rw [← hW0]
 clear hW0
 refine HC.out.mono ?_
 rintro e w1 ⟨rfl, q1, rfl⟩
 go_wp2_with fail
 refine (HD.out _).mono ?_
 rintro e w1 ⟨rfl, rfl⟩
 have qx := Box.put7 (w := W0.drewN q1) Z0.out (.int .u8 0) (.int .i64 0) (.slice none 0 0) (.string ⟨#[]⟩) (.string ⟨#[]⟩) (.slice none 0 0) (.slice none 0 0)
 have qb := below_put7 (below_drewN B0.out q1) (g := w.heap.size) n! (.int .u8 0) (.int .i64 0) (.slice none 0 0) (.string ⟨#[]⟩) (.string ⟨#[]⟩) (.slice none 0 0) (.slice none 0 0)
 unfold put7 at qx qb
 have HQX := h! qx
 have HQB := h! qb
 obtain ⟨_, z0, z1, z2, z3, z4, z5, z6⟩ := Z0.out.seven
 clear qx qb
 go_wp2_with fail
 obtain ⟨⟨d0, d1, d2, d3, d4, d5, d6⟩, _⟩ := HQX.out.seven
 exact bodyPost_ret (v := .tuple #[.agg #[.int .u8 0, .int .i64 0, .slice none 0 0, .string ⟨#[]⟩, .string ⟨#[]⟩, .slice none 0 0, .slice none 0 0], .int .i64 3]) (by simp [results, Tryz.results57, go_sem, d0, d1, d2, d3, d4, d5, d6]) rfl ⟨_, rfl, AtOwn.zero _ _, HQB.out⟩
set_option maxRecDepth 100000 in
set_option maxHeartbeats 2000000 in
theorem rbegin_4 (A : Option Addr) (n c : Nat) (ms : List Int) (ba : Int) (wi : ByteArray) (w : World) (hr : Rd w A n (ic ms)) (hl : ms.length ≤ 2000) (hs : wi.size ≤ maxLen) (hc : QM.ChkIs ms 0) (hg : BM.good ba) (hw : wi.size ≤ 1024) :
  Calls Tryz.prog 57 #[.slice A n c, .int .i64 ba, .string wi] w (ErrRet (AM.start ms ba wi) 0 w) := by
 unfold maxLen at hs
 obtain ⟨W0, hW0⟩ : ∃ W0, W0 = w.alloc (.cells #[.int .u8 0, .int .i64 0, .slice none 0 0, .string ⟨#[]⟩, .string ⟨#[]⟩, .slice none 0 0, .slice none 0 0] 57) := ⟨_, rfl⟩
 have hb0 : Below w.heap.size w W0 := by rw [hW0]; exact (Below.refl _ _).alloc n! _
 have hz0 : Box W0 w.heap.size 57 #[.int .u8 0, .int .i64 0, .slice none 0 0, .string ⟨#[]⟩, .string ⟨#[]⟩, .slice none 0 0, .slice none 0 0] := by rw [hW0]; exact Box.new _ _ _
 have hm : n ≤ 9223372036854775807 := by have := hr.1; rw [ic_length] at this; omega
 have B0 := h! hb0
 have Z0 := h! hz0
 have hs0 : W0.heap.size = w.heap.size + 1 := by rw [hW0]; simp
 obtain ⟨i0, hi, hz0', hz1, hz2⟩ := info_parts info_ai
 have hln : ms.length = n := by have := hr.1; rwa [ic_length] at this
 have HC := h! (rqCheck_any A n c ms 0 W0 (hr.below hb0) hm hc)
 have HD := h! (fun W => rCheck_any (show BM.OfIs ba (ba / 8) (ba % 8) 0 from .inl ⟨hg, rfl, rfl, rfl⟩) W)
 have HR := h! (hr.below hb0)
 have hn2 : n ≤ 2000 := by omega
 clear hr hc hb0 hz0 hg
 go_enter Tryz.func57, Tryz.ntmps57
 go_wp2_with fail
 rw [← hW0]
 clear hW0
 refine HC.out.mono ?_
 rintro e w1 ⟨rfl, q1, rfl⟩
 go_wp2_with fail
 refine (HD.out _).mono ?_
 rintro e w1 ⟨rfl, rfl⟩
 obtain ⟨W1, hW1⟩ : ∃ W1, W1 = W0.drewN q1 := ⟨_, rfl⟩
 have HRQ := h! (show Rd W1 A n (ic ms) by rw [hW1]; exact HR.out.drewN q1)
 have Z1 := h! (show Box W1 w.heap.size 57 #[.int .u8 0, .int .i64 0, .slice none 0 0, .string ⟨#[]⟩, .string ⟨#[]⟩, .slice none 0 0, .slice none 0 0] by rw [hW1]; exact Z0.out)
 have B1 := h! (show Below w.heap.size w W1 by rw [hW1]; exact below_drewN B0.out q1)
 have HNI := h! (World.ownsRow_nil W1 (w.heap.size + 1) 3 1)
 have hs1 : w.heap.size + 1 ≤ W1.heap.size := by rw [hW1]; show w.heap.size + 1 ≤ W0.heap.size; omega
 rw [← hW1]
 clear hW1 hs0
 have hfz : ∀ W : World, Box W w.heap.size 57 #[.int .u8 0, .int .i64 0, .slice none 0 0, .string ⟨#[]⟩, .string ⟨#[]⟩, .slice none 0 0, .slice none 0 0] → (W.frozen? ⟨w.heap.size, 0, none⟩ = false ∧ W.frozen? ⟨w.heap.size, 1, none⟩ = false) := fun W h => ⟨h.frozen 0, h.frozen 1⟩
 clear hfz
 go_wp2_with (at_builtin; refine wpList_append_rd _ rfl _ _ 22 rfl (w.heap.size + 1) 3 i0 (.int .i64 0) 8 Tryz.underlying22 hi hz0' hz1 hz2 rfl (.slice none 0 0) _ _ rfl HNI.out A n c (ic ms) rfl HRQ.out (ic_one _) (by unfold maxLen; omega) (by omega) hs1 ?_; intro v2 w2 hown2 hg2 hob2; obtain ⟨A', c', rfl, _, _⟩ := own_form hown2; have x2 := Z1.out.grown hg2 (by simp [Value.ownBlock]); obtain ⟨⟨s0, s1, s2, s3, s4, s5, s6⟩, z0, z1, z2, z3, z4, z5, z6⟩ := x2.seven)
 simp only [Nat.zero_add, List.nil_append] at hown2 ⊢
 have qx := x2.put7 (.int .u8 1) (.int .i64 ba) (.slice A' n c') (.string wi) (.string ⟨#[]⟩) (.slice none 0 0) (.slice none 0 0)
 have qb := below_put7 (B1.out.grown hg2 (by omega) (fun g hg => by simp [Value.ownBlock] at hg)) (g := w.heap.size) n! (.int .u8 1) (.int .i64 ba) (.slice A' n c') (.string wi) (.string ⟨#[]⟩) (.slice none 0 0) (.slice none 0 0)
 have qo := own_put7 hown2 (g := w.heap.size) (by omega) (.int .u8 1) (.int .i64 ba) (.slice A' n c') (.string wi) (.string ⟨#[]⟩) (.slice none 0 0) (.slice none 0 0)
 unfold put7 at qx qb qo
 obtain ⟨⟨d0, d1, d2, d3, d4, d5, d6⟩, _⟩ := qx.seven
 have qo2 := own_base qo (show w.heap.size ≤ w.heap.size + 1 by omega)
 subst hln
 exact bodyPost_ret (v := .tuple #[.agg #[.int .u8 1, .int .i64 ba, .slice A' ms.length c', .string wi, .string ⟨#[]⟩, .slice none 0 0, .slice none 0 0], .int .i64 0]) (by simp [results, Tryz.results57, go_sem, d0, d1, d2, d3, d4, d5, d6]) rfl ⟨_, rfl, ⟨_, _, _, rfl, qo2, World.ownsRow_nil _ _ _ _, World.ownsRow_nil _ _ _ _⟩, qb⟩
theorem rbegin_any (A : Option Addr) (n c : Nat) (ms : List Int) (ba : Int) (wi : ByteArray) (w : World) (hr : Rd w A n (ic ms)) (hl : ms.length ≤ 2000) (hs : wi.size ≤ maxLen) (y : Int) (hy : AM.BegIs ms ba wi y) :
  Calls Tryz.prog 57 #[.slice A n c, .int .i64 ba, .string wi] w (ErrRet (begAt ms ba wi y) y w) := by
 rcases hy with ⟨h, h0⟩ | ⟨h, h1, rfl⟩ | ⟨h, h1, h2, rfl⟩ | ⟨h, h1, h2, rfl⟩
 ·rw [begAt, if_neg h0]
  exact rbegin_1 A n c ms ba wi w hr hl hs y h h0
 ·exact rbegin_2 A n c ms ba wi w hr hl hs h h1
 ·exact rbegin_3 A n c ms ba wi w hr hl hs h h1 h2
 ·exact rbegin_4 A n c ms ba wi w hr hl hs h h1 h2
end Go.Proofs.YtiiobafcgdelmaaGreat
namespace Go.Proofs.YtiiobafcgdelmaaGreat
open Go.RowKit Go.Shelf
def BegPost (base g : Nat) (w : DC.Wd) (n : Int) (s : ByteArray) (W : World) (e : Ending) (W' : World) : Prop :=
 (1048576 < BM.rnd (DC.getV w n).p n ∧ e = .returned (.int .i64 9) ∧ WdAt W' base g w ∧ Kept isTk W W' ∧ Below base W W') ∨
 (BM.rnd (DC.getV w n).p n ≤ 1048576 ∧ e = .returned (.int .i64 0) ∧ WdAt W' base g (DC.begins w n s) ∧ Kept isTk W W' ∧ Below base W W')
def BgS (W : World) (base g : Nat) (w : DC.Wd) (gv : Nat) (v : DC.Vt) (wx : World) : Prop :=
 WdAt wx base g w ∧ Box wx gv 59 #[.int .i64 v.p, .int .i64 v.b, .string v.v] ∧ Kept isTk W wx ∧ Below base W wx
theorem BgS.below {W wx wy : World} {base g gv : Nat} {w : DC.Wd} {v : DC.Vt} (h : BgS W base g w gv v wx) (hb : Below wx.heap.size wx wy) (hbase : base ≤ W.heap.size) : BgS W base g w gv v wy :=
 ⟨h.1.below hb, h.2.1.below hb h.2.1.lt, h.2.2.1.more hb, bmore h.2.2.2 hb hbase⟩
theorem next_is {p n : Int} (hp : VM.okP p) (hn : DC.isNode n) : (BM.rnd p n ≤ 1048576 → BM.NextIs p n (DC.nextB p n) 0) ∧ (1048576 < BM.rnd p n → BM.NextIs p n 0 9) := by
 have ha : BM.asks p n := by
  unfold DC.isNode at hn
  refine ⟨hn.1, hn.2, ?_, ?_⟩
  ·rcases hp with h | h
   ·omega
   ·unfold BM.good at h; omega
  ·rcases hp with h | h
   ·omega
   ·unfold BM.good at h; omega
 exact ⟨fun h => .inl ⟨ha, h, rfl, rfl⟩, fun h => .inr (.inl ⟨ha, h, rfl, rfl⟩)⟩
theorem start_form {w : World} {base : Nat} {v : Value} {ms : List Int} {b : Int} {s : ByteArray} (h : AtOwn w base v (AM.start ms b s)) :
  ∃ A c D q C f, v = .agg #[.int .u8 1, .int .i64 b, .slice A ms.length c, .string s, .string ⟨#[]⟩, .slice D 0 q, .slice C 0 f] := by
 obtain ⟨A, c, D, q, C, f, rfl⟩ := h.form
 exact ⟨A, c, D, q, C, f, rfl⟩
set_option maxRecDepth 100000 in
set_option maxHeartbeats 8000000 in
theorem begins_any (base g i : Nat) (w : DC.Wd) (s : ByteArray) (W : World) (H : WdAt W base g w) (h0 : DC.May0 w) (hi : i < 6) (hs : s.size ≤ 1024) (hbase : base ≤ W.heap.size) (hl : w.ml.length ≤ 1000) (hch : w.ch.length ≤ 1000) :
  Calls Tryz.prog 27 #[.pointer (some ⟨g, 0, none⟩), .int .i64 (i : Int), .string s] W (BegPost base g w (i : Int) s W) := by
 have hn : DC.isNode (i : Int) := by unfold DC.isNode; omega
 have LT6 := h! h0.tl
 have LV6 := h! h0.vl
 have hVv : w.vs[i]? = some (DC.getV w (i : Int)) := by have := DC.getV_at h0.vl hn; rwa [Int.toNat_natCast] at this
 have hvm := h0.vote hn
 have H0 := h! h0
 have HMS := h! h0.ms
 have HBS := h! hbase
 have HN := h! hn
 have HWD := h! H
 have HVM := h! hvm
 have LEN := h! (And.intro hl hch)
 have HSS := h! hs
 have hi0 : (0 : Int) ≤ (i : Int) := by omega
 have hi2 : (i : Int) < (w.vs.length : Int) := by have := LV6.out; omega
 have hi1 : (i : Int) < (w.ts.length : Int) := by have := LT6.out; omega
 obtain ⟨nb, hnb⟩ : ∃ nb, nb = DC.nextB (DC.getV w (i : Int)).p (i : Int) := ⟨_, rfl⟩
 have hnx := next_is hvm.1 hn
 have hgt := DC.next_gt hvm.1 hn
 rw [← hnb] at hnx hgt
 have HNB := h! hnb
 have HNX := h! hnx
 have HGT := h! hgt
 obtain ⟨A0, c0, A1, c1, A2, c2, A3, c3, A4, c4, xs, hgb, hx, o0, o1, o2, ht, o3, o4⟩ := H
 obtain ⟨q1, rfl, hq1, v0, v1, v2⟩ := vote_cells o1 hVv rfl
 obtain ⟨⟨g0, g1, g2, g3, g4⟩, _⟩ := hx.five
 obtain ⟨vt, hvt⟩ : ∃ vt, vt = DC.getV w (i : Int) := ⟨_, rfl⟩
 rw [← hvt] at v0 v1 v2
 have HVT := h! hvt
 have S1 : Hid (BgS W base g w W.heap.size vt (W.alloc (.cells #[.int .i64 vt.p, .int .i64 vt.b, .string vt.v] 59))) := h! ⟨HWD.out.below ((Below.refl _ _).alloc n! _), Box.new _ _ _, Kept.of_below ((Below.refl _ _).alloc n! _), (Below.refl _ _).alloc HBS.out _⟩
 clear h0 hn hvm hVv hbase hl hch hs hnx hgt hnb hq1 hgb hx o0 o1 o2 ht o3 o4 hvt
 have mixed : Tryz.prog.follows Departure.mixedOrders = true := by kernel_rfl
 go_enter Tryz.func27, Tryz.ntmps27
 go_upto_region 2 with (fail)
 clear v0 v1 v2 g0 g1 g2 g3 g4
 generalize W.alloc (.cells #[.int .i64 vt.p, .int .i64 vt.b, .string vt.v] 59) = u1 at S1 ⊢
 generalize W.heap.size = gv at S1 ⊢
 obtain ⟨v0, v1, v2, _⟩ := S1.out.2.1.three
 rcases Int.lt_or_le 1048576 (BM.rnd (DC.getV w (i : Int)).p (i : Int)) with hr | hr
 ·have HC := h! (rNext_any (HNX.out.2 hr) u1)
  rw [← HVT.out] at HC
  have HF : Hid (BegPost base g w (i : Int) s W (.returned (.int .i64 9)) u1) := h! (.inl ⟨hr, rfl, S1.out.1, S1.out.2.2.1, S1.out.2.2.2⟩)
  clear hr
  go_wp2_with fail
  refine HC.out.mono ?_
  rintro e w2 ⟨rfl, rfl⟩
  go_wp2_with fail
  go_ret
  exact HF.out
 have HC := h! (rNext_any (HNX.out.1 hr) u1)
 rw [← HVT.out] at HC
 have HR := h! hr
 have hgood := HGT.out.2.2 hr
 have HGD := h! hgood
 clear hr hgood
 go_wp2_with fail
 refine HC.out.mono ?_
 rintro e w2 ⟨rfl, rfl⟩
 clear HC
 obtain ⟨x, y, tv, ee, hprep⟩ := VM.prepIs_ex vt.p vt.b vt.v nb
 have hpg := VM.prep_good hprep (by have := HVM.out; rw [← HVT.out] at this; exact this) HGD.out (by have := HGT.out.1; rw [← HVT.out] at this; exact Int.le_of_lt this)
 have HPR := h! (VP.rPrep_any (s := vt.v) u1 (by have := HVM.out.2; rw [← HVT.out] at this; unfold maxLen; rcases this with ⟨_, e⟩ | ⟨_, _, _, e⟩; (· rw [e]; decide); (· omega)) hprep)
 obtain ⟨px, py, pt, pe⟩ := hpg
 rw [px, py, pt, pe] at HPR
 clear px py pt pe hprep
 go_wp2_with fail
 refine HPR.out.mono ?_
 rintro e w3 ⟨rfl, hb3⟩
 clear HPR v0 v1 v2
 have hb4 : Below u1.heap.size u1 (w3.alloc (.cells #[.int .i64 nb, .int .i64 vt.b, .string vt.v] 59)) := hb3.alloc hb3.size _
 have S3 := h! (S1.out.below hb4 HBS.out)
 have XP := h! (Box.new w3 59 #[.int .i64 nb, .int .i64 vt.b, .string vt.v])
 clear hb4 hb3 S1
 go_upto_region 6 with (fail)
 generalize w3.alloc (.cells #[.int .i64 nb, .int .i64 vt.b, .string vt.v] 59) = u3 at S3 XP ⊢
 generalize w3.heap.size = gP at XP ⊢
 obtain ⟨A0, c0, A1, c1, A2, c2, A3, c3, A4, c4, xs, hgb, hx, o0, o1, o2, ht, o3, o4⟩ := S3.out.1
 obtain ⟨⟨g0, g1, g2, g3, g4⟩, _⟩ := hx.five
 have hmsl : w.ms.length ≤ 6 := (QM.may_len HMS.out).2.1
 have hbeg : AM.BegIs w.ms nb s 0 := AM.begIs_zero.2 (by unfold AM.okB; simp only [Bool.and_eq_true, decide_eq_true_eq]; exact ⟨HMS.out, HGD.out, HSS.out⟩)
 have HBG := h! (rbegin_any A0 w.ms.length c0 w.ms nb s u3 (Rd.of_own o0) (by omega) (by have := HSS.out; unfold maxLen; omega) 0 hbeg)
 rw [show begAt w.ms nb s 0 = AM.start w.ms nb s by unfold begAt; rw [if_pos rfl]] at HBG
 clear hgb hx o0 o1 o2 ht o3 o4 hbeg hmsl
 go_wp2_with fail
 refine HBG.out.mono ?_
 rintro e w6 ⟨v6, rfl, own, hb6⟩
 clear HBG g0 g1 g2 g3 g4
 obtain ⟨A9, c9, D9, q9, C9, f9, rfl⟩ := start_form own
 have hb7 : Below u3.heap.size u3 (w6.alloc (.cells #[.int .u8 1, .int .i64 nb, .slice A9 w.ms.length c9, .string s, .string ⟨#[]⟩, .slice D9 0 q9, .slice C9 0 f9] 57)) := hb6.alloc hb6.size _
 have S6 := h! (S3.out.below hb7 HBS.out)
 have XP6 := h! (XP.out.below hb7 XP.out.lt)
 have XA := h! (Box.new w6 57 #[.int .u8 1, .int .i64 nb, .slice A9 w.ms.length c9, .string s, .string ⟨#[]⟩, .slice D9 0 q9, .slice C9 0 f9])
 have OA := h! ((own.alloc (.cells #[.int .u8 1, .int .i64 nb, .slice A9 w.ms.length c9, .string s, .string ⟨#[]⟩, .slice D9 0 q9, .slice C9 0 f9] 57)).mono (Nat.le_trans HBS.out S3.out.2.2.2.size))
 clear hb7 hb6 own S3 XP
 go_upto_region 7 with (fail)
 generalize w6.alloc (.cells #[.int .u8 1, .int .i64 nb, .slice A9 w.ms.length c9, .string s, .string ⟨#[]⟩, .slice D9 0 q9, .slice C9 0 f9] 57) = u6 at S6 XP6 XA OA ⊢
 generalize w6.heap.size = gN at XA ⊢
 obtain ⟨A0, c0, A1, c1, A2, c2, A3, c3, A4, c4, xs, hgb, hx, o0, o1, o2, ht, o3, o4⟩ := S6.out.1
 obtain ⟨q3, rfl, hq3, _⟩ := own_some o1 (by have := LV6.out; omega)
 obtain ⟨x0, x1, x2, _⟩ := XP6.out.three
 obtain ⟨⟨g0, g1, g2, g3, g4⟩, _⟩ := hx.five
 have hgq := row_ne o1 (by have := LV6.out; omega) XP6.out (by omega) rfl
 have hgv := row_ne o1 (by have := LV6.out; omega) S6.out.2.1 (by omega) rfl
 have hthere := there_own (o := i * 3) (k := 3) o1 (by have := LV6.out; omega)
 have hst := wd_setV (W := u6.drew) (i := i) (v := ⟨nb, vt.b, vt.v⟩) hgb hx o0 o1 o2 ht o3 o4 (by have := LV6.out; omega)
 have hnx : BgS W base g ⟨w.ms, w.vs.set i ⟨nb, vt.b, vt.v⟩, w.ts, w.ml, w.ch⟩ gv vt (putAt3 u6.drew q3 (i * 3) (.int .i64 nb) (.int .i64 vt.b) (.string vt.v)) ∧ Box (putAt3 u6.drew q3 (i * 3) (.int .i64 nb) (.int .i64 vt.b) (.string vt.v)) gN 57 #[.int .u8 1, .int .i64 nb, .slice A9 w.ms.length c9, .string s, .string ⟨#[]⟩, .slice D9 0 q9, .slice C9 0 f9] ∧ AtOwn (putAt3 u6.drew q3 (i * 3) (.int .i64 nb) (.int .i64 vt.b) (.string vt.v)) base (.agg #[.int .u8 1, .int .i64 nb, .slice A9 w.ms.length c9, .string s, .string ⟨#[]⟩, .slice D9 0 q9, .slice C9 0 f9]) (AM.start w.ms nb s) :=
  ⟨⟨hst.1, box_at3 (show Box u6.drew gv _ _ from S6.out.2.1) hgv .., (S6.out.2.2.1.more ((Below.refl _ _).drew)).trans (hst.2.1.mono fun _ h => tk_of_v h), below_more (bmore S6.out.2.2.2 ((Below.refl _ _).drew) HBS.out) hst.2.2⟩, hst.2.1.box _ _ _ (by unfold isV; decide) (show Box u6.drew gN _ _ from XA.out), hst.2.1.at_ (show AtOwn u6.drew base _ _ from OA.out) (by unfold isV; decide) (by unfold isV; decide)⟩
 have hks : (putAt3 u6.drew q3 (i * 3) (.int .i64 nb) (.int .i64 vt.b) (.string vt.v)).cell? ⟨g, 1, none⟩ = some (.slice (some ⟨q3, 0, none⟩) w.vs.length c1) ∧ (putAt3 u6.drew q3 (i * 3) (.int .i64 nb) (.int .i64 vt.b) (.string vt.v)).cell? ⟨gP, 0, none⟩ = some (.int .i64 nb) ∧ (putAt3 u6.drew q3 (i * 3) (.int .i64 nb) (.int .i64 vt.b) (.string vt.v)).cell? ⟨gP, 1, none⟩ = some (.int .i64 vt.b) ∧ (putAt3 u6.drew q3 (i * 3) (.int .i64 nb) (.int .i64 vt.b) (.string vt.v)).cell? ⟨gP, 2, none⟩ = some (.string vt.v) := by
  have hgx := hst.2.1.box _ _ _ (show ¬ isV 28 by unfold isV; decide) (show Box u6.drew g _ _ from hx)
  have hmx := box_at3 (o := i * 3) (show Box u6.drew gP _ _ from XP6.out) hgq (.int .i64 nb) (.int .i64 vt.b) (.string vt.v)
  exact ⟨hgx.cell 1, hmx.cell 0, hmx.cell 1, hmx.cell 2⟩
 have NX := h! hnx
 have KS := h! hks
 clear hks hst hnx hgq hgv hgb hx o0 o1 o2 ht o3 o4 hq3
 go_cut [52] (fun _ wx => BgS W base g ⟨w.ms, w.vs.set i ⟨nb, vt.b, vt.v⟩, w.ts, w.ml, w.ch⟩ gv vt wx ∧ Box wx gN 57 #[.int .u8 1, .int .i64 nb, .slice A9 w.ms.length c9, .string s, .string ⟨#[]⟩, .slice D9 0 q9, .slice C9 0 f9] ∧ AtOwn wx base (.agg #[.int .u8 1, .int .i64 nb, .slice A9 w.ms.length c9, .string s, .string ⟨#[]⟩, .slice D9 0 q9, .slice C9 0 f9]) (AM.start w.ms nb s))
 case first =>
  have hS0 : u6.drew.cell? ⟨g, 1, none⟩ = some (.slice (some ⟨q3, 0, none⟩) w.vs.length c1) ∧ u6.drew.cell? ⟨gP, 0, none⟩ = some (.int .i64 nb) ∧ u6.drew.cell? ⟨gP, 1, none⟩ = some (.int .i64 vt.b) ∧ u6.drew.cell? ⟨gP, 2, none⟩ = some (.string vt.v) := ⟨g1, x0, x1, x2⟩
  have hS1 := KS.out
  refine wp_region_held_drew (S := fun w' => w'.cell? ⟨g, 1, none⟩ = some (.slice (some ⟨q3, 0, none⟩) w.vs.length c1) ∧ w'.cell? ⟨gP, 0, none⟩ = some (.int .i64 nb) ∧ w'.cell? ⟨gP, 1, none⟩ = some (.int .i64 vt.b) ∧ w'.cell? ⟨gP, 2, none⟩ = some (.string vt.v)) (by kernel_rfl) hS0 (fun hHeld => ?_)
  refine qT 0 ?_
  try simp only [Act.put, qq]
  refine qT 1 ?_
  try simp only [Act.put, qq]
  refine qT 2 ?_
  try simp only [Act.put, qq]
  refine qT 3 ?_
  try simp only [Act.put, qq]
  refine qT 4 ?_
  try simp only [Act.put, qq]
  refine qT 5 ?_
  try simp only [Act.put, qq]
  refine qT 6 ?_
  try simp only [Act.put, qq]
  refine qR 7 fun K hK => ?_
  refine step_store_mid rfl 59 _ _ rfl q3 (i * 3) #[.int .i64 nb, .int .i64 vt.b, .string vt.v] (by simp [Act.eval, Act.put]) (by simp [Act.eval, Act.put]) hthere (by kernel_rfl) (by simp [Value.oneCell']) ?_
  refine hK.out _ _ hS1 (fun hHeld => ?_)
  clear hK
  try simp only [Act.put, qq]
  refine wpAnyH_done (by kernel_rfl) ?_ _
  go_wp2_with fail
  go_meet
  case rel => exact NX.out
 case rest =>
  clear NX KS x0 x1 x2 g0 g1 g2 g3 g4 hthere S6 XP6 XA OA
  obtain ⟨hs7, hx7, ho7⟩ := hcut
  have S7 := h! hs7
  have X7 := h! hx7
  have O7 := h! ho7
  clear hs7 hx7 ho7
  obtain ⟨A0, c0, A1, c1, A2, c2, A3, c3, A4, c4, xs, hgb, hx, o0, o1, o2, ht, o3, o4⟩ := S7.out.1
  obtain ⟨q4, rfl, hq4, _⟩ := own_some o2 (by show 0 < w.ts.length; have := LT6.out; omega)
  obtain ⟨⟨s0, s1, s2, s3, s4, s5, s6⟩, _⟩ := X7.out.seven
  obtain ⟨⟨g0, g1, g2, g3, g4⟩, _⟩ := hx.five
  have hgq := row_ne o2 (by show 1 < w.ts.length; have := LT6.out; omega) X7.out (by omega) rfl
  have hthere := there_own (o := i * 7) (k := 7) o2 (by show _ ≤ w.ts.length * 7; have := LT6.out; omega)
  have hst := wd_setT (W := wc.drew) (i := i) (t := AM.start w.ms nb s) hgb hx o0 o1 o2 ht o3 o4 (by show i < w.ts.length; have := LT6.out; omega) O7.out
  have hnx : BgS W base g ⟨w.ms, w.vs.set i ⟨nb, vt.b, vt.v⟩, w.ts.set i (AM.start w.ms nb s), w.ml, w.ch⟩ gv vt (putAt7 wc.drew q4 (i * 7) (.int .u8 1) (.int .i64 nb) (.slice A9 w.ms.length c9) (.string s) (.string ⟨#[]⟩) (.slice D9 0 q9) (.slice C9 0 f9)) :=
   ⟨hst.1, hst.2.1.box _ _ _ (by unfold isA; decide) (show Box wc.drew gv _ _ from S7.out.2.1), (S7.out.2.2.1.more ((Below.refl _ _).drew)).trans (hst.2.1.mono fun _ h => tk_of_a h), below_more (bmore S7.out.2.2.2 ((Below.refl _ _).drew) HBS.out) hst.2.2⟩
  have hks : (putAt7 wc.drew q4 (i * 7) (.int .u8 1) (.int .i64 nb) (.slice A9 w.ms.length c9) (.string s) (.string ⟨#[]⟩) (.slice D9 0 q9) (.slice C9 0 f9)).cell? ⟨g, 2, none⟩ = some (.slice (some ⟨q4, 0, none⟩) w.ts.length c2) ∧ (putAt7 wc.drew q4 (i * 7) (.int .u8 1) (.int .i64 nb) (.slice A9 w.ms.length c9) (.string s) (.string ⟨#[]⟩) (.slice D9 0 q9) (.slice C9 0 f9)).cell? ⟨gN, 0, none⟩ = some (.int .u8 1) ∧ (putAt7 wc.drew q4 (i * 7) (.int .u8 1) (.int .i64 nb) (.slice A9 w.ms.length c9) (.string s) (.string ⟨#[]⟩) (.slice D9 0 q9) (.slice C9 0 f9)).cell? ⟨gN, 1, none⟩ = some (.int .i64 nb) ∧ (putAt7 wc.drew q4 (i * 7) (.int .u8 1) (.int .i64 nb) (.slice A9 w.ms.length c9) (.string s) (.string ⟨#[]⟩) (.slice D9 0 q9) (.slice C9 0 f9)).cell? ⟨gN, 2, none⟩ = some (.slice A9 w.ms.length c9) ∧ (putAt7 wc.drew q4 (i * 7) (.int .u8 1) (.int .i64 nb) (.slice A9 w.ms.length c9) (.string s) (.string ⟨#[]⟩) (.slice D9 0 q9) (.slice C9 0 f9)).cell? ⟨gN, 3, none⟩ = some (.string s) ∧ (putAt7 wc.drew q4 (i * 7) (.int .u8 1) (.int .i64 nb) (.slice A9 w.ms.length c9) (.string s) (.string ⟨#[]⟩) (.slice D9 0 q9) (.slice C9 0 f9)).cell? ⟨gN, 4, none⟩ = some (.string ⟨#[]⟩) ∧ (putAt7 wc.drew q4 (i * 7) (.int .u8 1) (.int .i64 nb) (.slice A9 w.ms.length c9) (.string s) (.string ⟨#[]⟩) (.slice D9 0 q9) (.slice C9 0 f9)).cell? ⟨gN, 5, none⟩ = some (.slice D9 0 q9) ∧ (putAt7 wc.drew q4 (i * 7) (.int .u8 1) (.int .i64 nb) (.slice A9 w.ms.length c9) (.string s) (.string ⟨#[]⟩) (.slice D9 0 q9) (.slice C9 0 f9)).cell? ⟨gN, 6, none⟩ = some (.slice C9 0 f9) := by
   have hgx := hst.2.1.box _ _ _ (show ¬ isA 28 by unfold isA; decide) (show Box wc.drew g _ _ from hx)
   have hmx := box_at7 (o := i * 7) (show Box wc.drew gN _ _ from X7.out) hgq (.int .u8 1) (.int .i64 nb) (.slice A9 w.ms.length c9) (.string s) (.string ⟨#[]⟩) (.slice D9 0 q9) (.slice C9 0 f9)
   exact ⟨hgx.cell 2, hmx.cell 0, hmx.cell 1, hmx.cell 2, hmx.cell 3, hmx.cell 4, hmx.cell 5, hmx.cell 6⟩
  have NX := h! hnx
  have KS := h! hks
  clear hks hst hnx hgq hgb hx o0 o1 o2 ht o3 o4 hq4
  go_upto_region 8 with (fail)
  go_cut [59] (fun _ wx => BgS W base g ⟨w.ms, w.vs.set i ⟨nb, vt.b, vt.v⟩, w.ts.set i (AM.start w.ms nb s), w.ml, w.ch⟩ gv vt wx)
  case first =>
   have hS0 : wc.drew.cell? ⟨g, 2, none⟩ = some (.slice (some ⟨q4, 0, none⟩) w.ts.length c2) ∧ wc.drew.cell? ⟨gN, 0, none⟩ = some (.int .u8 1) ∧ wc.drew.cell? ⟨gN, 1, none⟩ = some (.int .i64 nb) ∧ wc.drew.cell? ⟨gN, 2, none⟩ = some (.slice A9 w.ms.length c9) ∧ wc.drew.cell? ⟨gN, 3, none⟩ = some (.string s) ∧ wc.drew.cell? ⟨gN, 4, none⟩ = some (.string ⟨#[]⟩) ∧ wc.drew.cell? ⟨gN, 5, none⟩ = some (.slice D9 0 q9) ∧ wc.drew.cell? ⟨gN, 6, none⟩ = some (.slice C9 0 f9) := ⟨g2, s0, s1, s2, s3, s4, s5, s6⟩
   have hS1 := KS.out
   refine wp_region_held_drew (S := fun w' => w'.cell? ⟨g, 2, none⟩ = some (.slice (some ⟨q4, 0, none⟩) w.ts.length c2) ∧ w'.cell? ⟨gN, 0, none⟩ = some (.int .u8 1) ∧ w'.cell? ⟨gN, 1, none⟩ = some (.int .i64 nb) ∧ w'.cell? ⟨gN, 2, none⟩ = some (.slice A9 w.ms.length c9) ∧ w'.cell? ⟨gN, 3, none⟩ = some (.string s) ∧ w'.cell? ⟨gN, 4, none⟩ = some (.string ⟨#[]⟩) ∧ w'.cell? ⟨gN, 5, none⟩ = some (.slice D9 0 q9) ∧ w'.cell? ⟨gN, 6, none⟩ = some (.slice C9 0 f9)) (by kernel_rfl) hS0 (fun hHeld => ?_)
   refine qT 0 ?_
   try simp only [Act.put, qq]
   refine qT 1 ?_
   try simp only [Act.put, qq]
   refine qT 2 ?_
   try simp only [Act.put, qq]
   refine qT 3 ?_
   try simp only [Act.put, qq]
   refine qT 4 ?_
   try simp only [Act.put, qq]
   refine qT 5 ?_
   try simp only [Act.put, qq]
   refine qT 6 ?_
   try simp only [Act.put, qq]
   refine qR 7 fun K hK => ?_
   refine step_store_mid rfl 57 _ _ rfl q4 (i * 7) #[.int .u8 1, .int .i64 nb, .slice A9 w.ms.length c9, .string s, .string ⟨#[]⟩, .slice D9 0 q9, .slice C9 0 f9] (by simp [Act.eval, Act.put]) (by simp [Act.eval, Act.put]) hthere (by kernel_rfl) (by simp [Value.oneCell']) ?_
   refine hK.out _ _ hS1 (fun hHeld => ?_)
   clear hK
   try simp only [Act.put, qq]
   refine wpAnyH_done (by kernel_rfl) ?_ _
   go_wp2_with fail
   go_meet
   case rel => exact NX.out
  case rest =>
   clear NX KS s0 s1 s2 s3 s4 s5 s6 g0 g1 g2 g3 g4 hthere S7 X7 O7
   have S8 := h! hcut
   clear hcut
   have hb1 : DC.begin1 w (i : Int) s = ⟨w.ms, w.vs.set i ⟨nb, vt.b, vt.v⟩, w.ts.set i (AM.start w.ms nb s), w.ml ++ DC.others w.ms (DC.mk (i : Int) 0 1 nb 0 .empty), w.ch⟩ := by
    unfold DC.begin1
    rw [← HNB.out, ← HVT.out, Int.toNat_natCast]
   have hmb := DC.may_begin1 H0.out HN.out HR.out HSS.out
   obtain ⟨ll, lc⟩ := LEN.out
   have hmsl : w.ms.length ≤ 6 := (QM.may_len HMS.out).2.1
   have hol := DC.others_len w.ms (DC.mk (i : Int) 0 1 nb 0 .empty)
   have HO : Hid (Calls Tryz.prog 58 #[.pointer (some ⟨g, 0, none⟩), .agg #[.int .i64 (i : Int), .int .i64 0, .int .u8 1, .int .i64 0, .int .i64 0, .int .i64 nb, .int .i64 0, .string ⟨#[]⟩, .int .i64 0, .int .i64 0]] wc (OthPost base g ⟨w.ms, w.vs.set i ⟨nb, vt.b, vt.v⟩, w.ts.set i (AM.start w.ms nb s), w.ml, w.ch⟩ (DC.mk (i : Int) 0 1 nb 0 .empty) wc)) :=
    h! (others_any base g ⟨w.ms, w.vs.set i ⟨nb, vt.b, vt.v⟩, w.ts.set i (AM.start w.ms nb s), w.ml, w.ch⟩ (DC.mk (i : Int) 0 1 nb 0 .empty) wc S8.out.1 (Nat.le_trans HBS.out S8.out.2.2.2.size) (by show w.ms.length ≤ 2000; omega) (by show w.ml.length ≤ 2000; omega))
   have HTK := h! (fun (W' : World) (h : WdAt W' base g (DC.begin1 w (i : Int) s)) (hbz : base ≤ W'.heap.size) => takes_any base g i (DC.begin1 w (i : Int) s) nb ⟨(i : Int), vt.b, vt.v⟩ W' h hmb hi (by
    have hv := HVM.out.2
    rw [← HVT.out] at hv
    rcases hv with ⟨e1, e2⟩ | ⟨_, e2, _, e4⟩
    ·exact ⟨by show _ ≤ vt.b; omega, by show vt.b ≤ _; omega, by show vt.v.size ≤ _; rw [e2]; decide⟩
    ·unfold BM.good at e2
     exact ⟨by show _ ≤ vt.b; omega, by show vt.b ≤ _; omega, by show vt.v.size ≤ _; unfold maxLen; omega⟩) hbz (by rw [hb1]; show (w.ml ++ _).length ≤ 1900; rw [List.length_append]; omega) (by rw [hb1]; show w.ch.length ≤ 1900; omega))
   have HFIN : Hid (∀ wx wy, Kept isTk W wx → Below base W wx → TakPost base g (DC.begin1 w (i : Int) s) (i : Int) nb ⟨(i : Int), vt.b, vt.v⟩ wx (.returned (.tuple #[])) wy → BegPost base g w (i : Int) s W (.returned (.int .i64 0)) wy) := h! fun wx wy hk hb h => .inr ⟨HR.out, rfl, by
    have h2 := h.2.1
    unfold DC.begins
    rw [← HNB.out, ← HVT.out]
    exact h2, hk.trans h.2.2.1, below_more hb h.2.2.2⟩
   have HB1 := h! hb1
   clear hb1 hmb ll lc hmsl hol
   obtain ⟨v0, v1, v2, _⟩ := S8.out.2.1.three
   go_wp2_with fail
   refine HO.out.mono ?_
   rintro e w9 ⟨rfl, hW9, hk9, hb9⟩
   clear v0 v1 v2 HO
   have W9 : Hid (WdAt w9 base g (DC.begin1 w (i : Int) s)) := h! (by rw [HB1.out]; exact hW9)
   have X9 := h! (hk9.box _ _ _ (by unfold isWM; decide) S8.out.2.1)
   have K9 := h! (S8.out.2.2.1.trans (hk9.mono fun _ h => tk_of_wm h))
   have B9 := h! (below_more S8.out.2.2.2 hb9)
   clear hW9 hk9 hb9 S8
   obtain ⟨v0, v1, v2, _⟩ := X9.out.three
   go_wp2_with fail
   refine (HTK.out _ W9.out (Nat.le_trans HBS.out B9.out.size)).mono ?_
   rintro e wz hz
   obtain ⟨rfl, hz2⟩ := hz
   have HZ := h! (HFIN.out _ _ K9.out B9.out ⟨rfl, hz2⟩)
   clear hz2 v0 v1 v2 HTK HFIN
   go_wp2_with fail
   go_ret
   exact HZ.out
end Go.Proofs.YtiiobafcgdelmaaGreat
