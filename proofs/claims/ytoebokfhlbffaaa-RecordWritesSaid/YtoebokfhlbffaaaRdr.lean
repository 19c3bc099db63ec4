/-
  What the methods of the document's own reader (towncrierref01.Reader: Number, Text, Done) do: what is left, or nothing once something was wrong. Conditions: as each theorem says.
-/
import Derived.Test.YtoebokfhlbffaaaSrc
import Derived.Test.YtoebokfhlbffaaaNumRT
import Derived.Test.YtoebokfhlbffaaaRecMath
namespace Go.Proofs.Ytoebokfhlbffaaa
open Go.RowKit
set_option linter.unusedVariables false
set_option linter.unusedSimpArgs false

/-- a reader in memory: what is left, or nothing once something was wrong -/
def RdrAt (w : World) (g : Nat) (o : Option (List UInt8)) : Prop :=
  ∃ A n c l b, Box w g 51 #[.slice A n c, .bool b] ∧ Src w g A n c l ∧ ((b = false ∧ o = some l) ∨ (b = true ∧ o = none))
theorem RdrAt.below {w w' : World} {g B : Nat} {o : Option (List UInt8)} (h : RdrAt w g o) (hb : Below B w w') (hg : g < B) : RdrAt w' g o := by
  obtain ⟨A, n, c, l, b, h1, h2, h3⟩ := h
  exact ⟨A, n, c, l, b, h1.below hb hg, h2.below (hb.mono (Nat.le_of_lt hg)), h3⟩
theorem RdrAt.far {w : World} {g : Nat} {o : Option (List UInt8)} (h : RdrAt w g o) {p : Addr} (hp : g < p.block) (u : Value) : RdrAt (w.setCell p u) g o := by
  obtain ⟨A, n, c, l, b, h1, h2, h3⟩ := h
  exact ⟨A, n, c, l, b, h1.far (by omega) u, h2.below ((Below.refl _ _).setCell (Nat.le_of_lt hp) u), h3⟩
theorem rdr_bad {w : World} {g : Nat} {A : Option Addr} {n c : Nat} {l : List UInt8} {b : Bool} (h : Box w g 51 #[.slice A n c, .bool b]) (hs : Src w g A n c l) : RdrAt (w.setCell ⟨g, 1, none⟩ (.bool true)) g none := by
  refine ⟨A, n, c, l, true, ?_, hs.below ((Below.refl g w).setCell (p := ⟨g, 1, none⟩) (Nat.le_refl g) _), .inr ⟨rfl, rfl⟩⟩
  have := h.stored 1 (.bool true)
  simpa using this
theorem rdr_ok {w : World} {g : Nat} {v : Value} {A : Option Addr} {n c : Nat} {l : List UInt8} (h : Box w g 51 #[v, .bool false]) (hs : Src w g A n c l) : RdrAt (w.setCell ⟨g, 0, none⟩ (.slice A n c)) g (some l) := by
  refine ⟨A, n, c, l, false, ?_, hs.below ((Below.refl g w).setCell (p := ⟨g, 0, none⟩) (Nat.le_refl g) _), .inl ⟨rfl, rfl⟩⟩
  have := h.stored 0 (.slice A n c)
  simpa using this
/-- what a number's reading leaves: its own block alone is changed -/
def RdrPost (v : Value) (o : Option (List UInt8)) (g : Nat) (w : World) (e : Ending) (w' : World) : Prop := e = .returned v ∧ RdrAt w' g o ∧ ∃ i u, w' = w.setCell ⟨g, i, none⟩ u

set_option maxRecDepth 100000 in
set_option maxHeartbeats 4000000 in
theorem rNumber_any (g hi : Nat) (o : Option (List UInt8)) (w : World) (h : RdrAt w g o) (hh : hi ≤ 1099511627776) :
    Calls Try.prog 23 #[.pointer (some ⟨g, 0, none⟩), .int .i64 hi] w (RdrPost (.int .i64 (RM.nv hi o)) (RM.nx hi o) g w) := by
  obtain ⟨A, n, c, l, b, bx, hs, ho⟩ := h
  have hl := src_len hs
  have hn := hs.2.1
  have hc := hs.2.2.1
  have G := Lib.hid (refGet_any A n c l w hs.1 (by omega))
  have c0 := bx.cell 0
  have c1 := bx.cell 1
  have f0 := bx.frozen 0
  have f1 := bx.frozen 1
  simp at c0 c1
  unfold maxLen at hc
  have BX := Lib.hid bx
  have HS := Lib.hid hs
  rcases hd : NM.dec l with _ | ⟨x, k⟩
  · have HD := Lib.hid (show RM.nv hi o = 0 ∧ RM.nx hi o = none by
      rcases ho with ⟨_, rfl⟩ | ⟨_, rfl⟩
      · simp [RM.nv, RM.nx, RM.num, hd]
      · exact ⟨rfl, rfl⟩)
    rw [hd] at G
    clear hs bx hd hl ho
    go_enter Try.func23, Try.ntmps23
    go_wp2_with fail
    refine (G.out).mono ?_
    rintro e w1 ⟨rfl, rfl⟩
    unfold getRes
    go_wp2_with fail
    go_ret
    refine ⟨by rw [HD.out.1]; rfl, ?_, 1, _, rfl⟩
    rw [HD.out.2]
    exact rdr_bad BX.out HS.out
  · have hk := (NM.dec_bound l x k hd).2.2.1
    have hx := (NM.dec_bound l x k hd).1
    rw [hl] at hk
    by_cases hxh : x ≤ hi
    · cases b
      · have HD := Lib.hid (show RM.nv hi o = x ∧ RM.nx hi o = some (l.drop k) by
          rcases ho with ⟨_, rfl⟩ | ⟨h, _⟩
          · simp [RM.nv, RM.nx, RM.num, hd, hxh]
          · cases h)
        have S := Lib.hid (hs.cut hk)
        rw [hd] at G
        clear hs bx hd hl ho HS
        by_cases hck : c = k
        · rw [if_pos hck] at S
          subst hck
          rw [Nat.sub_self, show n - c = 0 by omega] at S
          go_enter Try.func23, Try.ntmps23
          go_wp2_with fail
          refine (G.out).mono ?_
          rintro e w1 ⟨rfl, rfl⟩
          unfold getRes
          go_wp2_with fail
          go_ret
          refine ⟨by rw [HD.out.1]; rfl, ?_, 0, _, rfl⟩
          rw [HD.out.2]
          exact rdr_ok BX.out S.out
        · rw [if_neg hck] at S
          go_enter Try.func23, Try.ntmps23
          go_wp2_with fail
          refine (G.out).mono ?_
          rintro e w1 ⟨rfl, rfl⟩
          unfold getRes
          go_wp2_with fail
          go_ret
          refine ⟨by rw [HD.out.1]; rfl, ?_, 0, _, rfl⟩
          rw [HD.out.2]
          exact rdr_ok BX.out S.out
      · have HD := Lib.hid (show RM.nv hi o = 0 ∧ RM.nx hi o = none by
          rcases ho with ⟨h, _⟩ | ⟨_, rfl⟩
          · cases h
          · exact ⟨rfl, rfl⟩)
        rw [hd] at G
        clear hs bx hd hl ho
        go_enter Try.func23, Try.ntmps23
        go_wp2_with fail
        refine (G.out).mono ?_
        rintro e w1 ⟨rfl, rfl⟩
        unfold getRes
        go_wp2_with fail
        go_ret
        refine ⟨by rw [HD.out.1]; rfl, ?_, 1, _, rfl⟩
        rw [HD.out.2]
        exact rdr_bad BX.out HS.out
    · have HD := Lib.hid (show RM.nv hi o = 0 ∧ RM.nx hi o = none by
        rcases ho with ⟨_, rfl⟩ | ⟨_, rfl⟩
        · simp [RM.nv, RM.nx, RM.num, hd, hxh]
        · exact ⟨rfl, rfl⟩)
      have hxh2 : hi < x := by omega
      rw [hd] at G
      clear hs bx hd hl ho hxh
      go_enter Try.func23, Try.ntmps23
      go_wp2_with fail
      refine (G.out).mono ?_
      rintro e w1 ⟨rfl, rfl⟩
      unfold getRes
      go_wp2_with fail
      go_ret
      refine ⟨by rw [HD.out.1]; rfl, ?_, 1, _, rfl⟩
      rw [HD.out.2]
      exact rdr_bad BX.out HS.out

set_option maxRecDepth 100000 in
set_option maxHeartbeats 4000000 in
theorem rText_any (g hi : Nat) (o : Option (List UInt8)) (w : World) (h : RdrAt w g o) (hh : hi ≤ 1099511627776) :
    Calls Try.prog 24 #[.pointer (some ⟨g, 0, none⟩), .int .i64 hi] w (RdrPost (.string ⟨(RM.tv hi o).toArray⟩) (RM.tx hi o) g w) := by
  obtain ⟨A, n, c, l, b, bx, hs, ho⟩ := h
  have hl := src_len hs
  have hn := hs.2.1
  have hc := hs.2.2.1
  have G := Lib.hid (refGetText_any A n c l w hs.1 hs.2.1 hs.2.2.1)
  have c0 := bx.cell 0
  have c1 := bx.cell 1
  have f0 := bx.frozen 0
  have f1 := bx.frozen 1
  simp at c0 c1
  unfold maxLen at hc
  have BX := Lib.hid bx
  have HS := Lib.hid hs
  rcases hd : NM.getText l with _ | ⟨t, k⟩
  · have HD := Lib.hid (show RM.tv hi o = [] ∧ RM.tx hi o = none by
      rcases ho with ⟨_, rfl⟩ | ⟨_, rfl⟩
      · simp [RM.tv, RM.tx, RM.txt, hd]
      · exact ⟨rfl, rfl⟩)
    rw [hd] at G
    clear hs bx hd hl ho
    go_enter Try.func24, Try.ntmps24
    go_wp2_with fail
    refine (G.out).mono ?_
    rintro e w1 ⟨rfl, rfl⟩
    unfold textRes
    go_wp2_with fail
    go_ret
    refine ⟨by rw [HD.out.1]; rfl, ?_, 1, _, rfl⟩
    rw [HD.out.2]
    exact rdr_bad BX.out HS.out
  · have hk := (NM.text_getText l t k hd).2.1
    have hx := (NM.text_getText l t k hd).1
    rw [hl] at hk
    obtain ⟨v, hv, hvs⟩ : ∃ v : ByteArray, v = ⟨t.toArray⟩ ∧ v.size = t.length := ⟨_, rfl, by show t.toArray.size = _; simp⟩
    have HV := Lib.hid hv
    have G2 : Hid (Calls Try.prog 36 #[.slice A n c] w fun e w' => e = .returned (.tuple #[.string v, .int .i64 k, .int .i64 0]) ∧ w = w') := by
      rw [hd] at G; rw [hv]; exact G
    clear hv G
    by_cases hxh : v.size ≤ hi
    · cases b
      · have HD := Lib.hid (show RM.tv hi o = t ∧ RM.tx hi o = some (l.drop k) by
          rcases ho with ⟨_, rfl⟩ | ⟨h, _⟩
          · simp [RM.tv, RM.tx, RM.txt, hd, show t.length ≤ hi by omega]
          · cases h)
        have S := Lib.hid (hs.cut hk)
        clear hs bx hd hl ho HS hvs
        by_cases hck : c = k
        · rw [if_pos hck] at S
          subst hck
          rw [Nat.sub_self, show n - c = 0 by omega] at S
          go_enter Try.func24, Try.ntmps24
          go_wp2_with fail
          refine (G2.out).mono ?_
          rintro e w1 ⟨rfl, rfl⟩
          go_wp2_with fail
          go_ret
          refine ⟨by rw [HD.out.1, ← HV.out]; rfl, ?_, 0, _, rfl⟩
          rw [HD.out.2]
          exact rdr_ok BX.out S.out
        · rw [if_neg hck] at S
          go_enter Try.func24, Try.ntmps24
          go_wp2_with fail
          refine (G2.out).mono ?_
          rintro e w1 ⟨rfl, rfl⟩
          go_wp2_with fail
          go_ret
          refine ⟨by rw [HD.out.1, ← HV.out]; rfl, ?_, 0, _, rfl⟩
          rw [HD.out.2]
          exact rdr_ok BX.out S.out
      · have HD := Lib.hid (show RM.tv hi o = [] ∧ RM.tx hi o = none by
          rcases ho with ⟨h, _⟩ | ⟨_, rfl⟩
          · cases h
          · exact ⟨rfl, rfl⟩)
        clear hs bx hd hl ho hvs
        go_enter Try.func24, Try.ntmps24
        go_wp2_with fail
        refine (G2.out).mono ?_
        rintro e w1 ⟨rfl, rfl⟩
        go_wp2_with fail
        go_ret
        refine ⟨by rw [HD.out.1]; rfl, ?_, 1, _, rfl⟩
        rw [HD.out.2]
        exact rdr_bad BX.out HS.out
    · have HD := Lib.hid (show RM.tv hi o = [] ∧ RM.tx hi o = none by
        rcases ho with ⟨_, rfl⟩ | ⟨_, rfl⟩
        · simp [RM.tv, RM.tx, RM.txt, hd, show ¬ t.length ≤ hi by omega]
        · exact ⟨rfl, rfl⟩)
      have hxh2 : hi < v.size := by omega
      clear hs bx hd hl ho hxh hvs
      go_enter Try.func24, Try.ntmps24
      go_wp2_with fail
      refine (G2.out).mono ?_
      rintro e w1 ⟨rfl, rfl⟩
      go_wp2_with fail
      go_ret
      refine ⟨by rw [HD.out.1]; rfl, ?_, 1, _, rfl⟩
      rw [HD.out.2]
      exact rdr_bad BX.out HS.out

theorem rDone_any (g : Nat) (o : Option (List UInt8)) (w : World) (h : RdrAt w g o) :
    Calls Try.prog 25 #[.pointer (some ⟨g, 0, none⟩)] w fun e w' => e = .returned (.bool (decide (o = some []))) ∧ w = w' := by
  obtain ⟨A, n, c, l, b, bx, hs, ho⟩ := h
  have hl := src_len hs
  have c0 := bx.cell 0
  have c1 := bx.cell 1
  simp at c0 c1
  have hn := hs.2.1
  have hc := hs.2.2.1
  unfold maxLen at hc
  clear bx hs
  cases b
  · obtain rfl : o = some l := ho.elim (fun h => h.2) (fun h => by cases h.1)
    have HO := Lib.hid (show decide (some l = some []) = decide ((n : Int) = 0) by
      rw [Bool.eq_iff_iff, decide_eq_true_iff, decide_eq_true_iff, Option.some.injEq, ← hl, ← List.length_eq_zero_iff]; omega)
    clear ho hl
    go_enter Try.func25, Try.ntmps25
    go_wp2_with fail
    go_ret
    rw [HO.out]
    exact ⟨rfl, rfl⟩
  · obtain rfl : o = none := ho.elim (fun h => by cases h.1) (fun h => h.2)
    clear ho
    go_enter Try.func25, Try.ntmps25
    go_wp2_with fail
    go_ret
    exact ⟨rfl, rfl⟩
end Go.Proofs.Ytoebokfhlbffaaa
