/-
  What the document's own Read of layer 10 (towncrierref10) answers. Conditions: the text's length is one that Go has.
-/
import Derived.Test.YtoebokfhlbffaaaRecRM
import Derived.Test.YtoebokfhlbffaaaRdr
import Derived.Test.YtoebokfhlbffaaaConv
namespace Go.Proofs.Ytoebokfhlbffaaa.RP
open Go.RowKit
set_option linter.unusedVariables false
set_option linter.unusedSimpArgs false

theorem nv_le (hi : Nat) (o : Option (List UInt8)) : RM.nv hi o ≤ hi := by
  rcases o with _ | l
  · simp [RM.nv]
  · rcases h : RM.num hi l with _ | ⟨n, r⟩
    · simp [RM.nv, h]
    · simp [RM.nv, h]; exact (RM.enc_num h).1
theorem tv_le (hi : Nat) (o : Option (List UInt8)) : (RM.tv hi o).length ≤ hi := by
  rcases o with _ | l
  · simp [RM.tv]
  · rcases h : RM.txt hi l with _ | ⟨n, r⟩
    · simp [RM.tv, h]
    · simp [RM.tv, h]; exact (RM.text_txt h).1
theorem rbox5 {w : World} {g : Nat} {t : TypeId} {a b c d f : Value} (h : Box w g t #[a, b, c, d, f]) :
    (w.cell? ⟨g, 0, none⟩ = some a ∧ w.cell? ⟨g, 1, none⟩ = some b ∧ w.cell? ⟨g, 2, none⟩ = some c ∧ w.cell? ⟨g, 3, none⟩ = some d ∧ w.cell? ⟨g, 4, none⟩ = some f) ∧
    w.frozen? ⟨g, 0, none⟩ = false ∧ w.frozen? ⟨g, 1, none⟩ = false ∧ w.frozen? ⟨g, 2, none⟩ = false ∧ w.frozen? ⟨g, 3, none⟩ = false ∧ w.frozen? ⟨g, 4, none⟩ = false :=
  ⟨⟨h.cell 0, h.cell 1, h.cell 2, h.cell 3, h.cell 4⟩, h.frozen 0, h.frozen 1, h.frozen 2, h.frozen 3, h.frozen 4⟩
theorem rbelow_put5 {B g : Nat} {a w : World} (h : Below B a w) (hg : B ≤ g) (x y z u v : Value) : Below B a (((((w.setCell ⟨g, 0, none⟩ x).setCell ⟨g, 1, none⟩ y).setCell ⟨g, 2, none⟩ z).setCell ⟨g, 3, none⟩ u).setCell ⟨g, 4, none⟩ v) :=
  ((((h.setCell (p := ⟨g, 0, none⟩) hg x).setCell (p := ⟨g, 1, none⟩) hg y).setCell (p := ⟨g, 2, none⟩) hg z).setCell (p := ⟨g, 3, none⟩) hg u).setCell (p := ⟨g, 4, none⟩) hg v
/-- Read's variables: the answer, the reader -/
def RS (w0 w : World) (g : Nat) (o : Option (List UInt8)) : Prop :=
  Box w w0.heap.size 26 #[.int .u8 0, .int .i64 0, .int .i64 0, .int .i64 0, .string ⟨#[]⟩] ∧ RdrAt w g o ∧ w0.heap.size < g ∧ g < w.heap.size ∧ Below w0.heap.size w0 w
/-- .. and the record -/
def RT (w0 w : World) (g h : Nat) (o : Option (List UInt8)) (R : Array Value) : Prop := RS w0 w g o ∧ Box w h 26 R ∧ g < h
theorem heap_set (w : World) (p : Addr) (u : Value) : (w.setCell p u).heap.size = w.heap.size := by simp
theorem RS.num {w0 w w' : World} {g : Nat} {o o' : Option (List UInt8)} (h : RS w0 w g o) (k : RdrAt w' g o' ∧ ∃ i u, w' = w.setCell ⟨g, i, none⟩ u) : RS w0 w' g o' := by
  obtain ⟨h1, _, h3, h4, h5⟩ := h
  obtain ⟨k1, i, u, rfl⟩ := k
  exact ⟨h1.far (p := ⟨g, i, none⟩) (by simp; omega) u, k1, h3, by rw [heap_set]; exact h4, h5.setCell (p := ⟨g, i, none⟩) (Nat.le_of_lt h3) u⟩
theorem RS.alloc {w0 w : World} {g : Nat} {o : Option (List UInt8)} (h : RS w0 w g o) (R : Array Value) : RT w0 (w.alloc (.cells R 26)) g w.heap.size o R := by
  obtain ⟨h1, h2, h3, h4, h5⟩ := h
  have hb : Below w.heap.size w (w.alloc (.cells R 26)) := (Below.refl _ _).alloc (Nat.le_refl _) _
  exact ⟨⟨h1.alloc _, h2.below hb h4, h3, by simp; omega, bmore h5 hb (Nat.le_refl _)⟩, Box.new _ _ _, h4⟩
theorem RT.num {w0 w w' : World} {g h : Nat} {o o' : Option (List UInt8)} {R : Array Value} (H : RT w0 w g h o R) (k : RdrAt w' g o' ∧ ∃ i u, w' = w.setCell ⟨g, i, none⟩ u) : RT w0 w' g h o' R := by
  refine ⟨H.1.num k, ?_, H.2.2⟩
  obtain ⟨_, i, u, rfl⟩ := k
  exact H.2.1.far (p := ⟨g, i, none⟩) (by have := H.2.2; simp; omega) u
theorem RT.put {w0 w : World} {g h : Nat} {o : Option (List UInt8)} {R : Array Value} (H : RT w0 w g h o R) (i : Nat) (v : Value) : RT w0 (w.setCell ⟨h, i, none⟩ v) g h o (R.setIfInBounds i v) := by
  obtain ⟨⟨h1, h2, h3, h4, h5⟩, h6, h7⟩ := H
  exact ⟨⟨h1.far (p := ⟨h, i, none⟩) (by simp; omega) v, h2.far (p := ⟨h, i, none⟩) h7 v, h3, by rw [heap_set]; exact h4, h5.setCell (p := ⟨h, i, none⟩) (by simp; omega) v⟩, h6.stored i v, h7⟩
theorem rs_new {w0 w : World} {A : Option Addr} {n c : Nat} {l : List UInt8} (h : Box w w0.heap.size 26 #[.int .u8 0, .int .i64 0, .int .i64 0, .int .i64 0, .string ⟨#[]⟩]) (hb : Below w0.heap.size w0 w) (hr : Rd w A n (bc l)) (h1 : n ≤ c) (h2 : c ≤ maxLen) :
    RS w0 (w.alloc (.cells #[.slice A n c, .bool false] 51)) w.heap.size (some l) := by
  have hB : Below w.heap.size w (w.alloc (.cells #[.slice A n c, .bool false] 51)) := (Below.refl _ _).alloc (Nat.le_refl _) _
  exact ⟨h.alloc _, ⟨A, n, c, l, false, Box.new _ _ _, (src_new hr h1 h2).below hB, .inl ⟨rfl, rfl⟩⟩, h.lt, by simp, bmore hb hB (Nat.le_refl _)⟩

set_option maxRecDepth 100000 in
set_option maxHeartbeats 4000000 in
theorem rread_3 {r : RM.Rc} {e : Int} (s : ByteArray) (l : List UInt8) (hl : RM.bsz s = l) (hk : RM.kk l = 3) (h : RM.ReadIs l r e) (hs : s.size ≤ maxLen) (w : World) :
    Calls Try.prog 12 #[.string s] w (RcAns r e w) := by
  have h4 : RM.o4 l = RM.o3 l ∧ RM.bb l = 0 := by unfold RM.o4 RM.bb; rw [hk]; simp
  have h5 : RM.o5 l = RM.tx 1024 (RM.o4 l) ∧ RM.vv l = RM.tv 1024 (RM.o4 l) := by unfold RM.o5 RM.vv; rw [hk]; simp
  have hout : RM.out l = ⟨3, RM.gg l, RM.ss l, 0, ⟨(RM.vv l).toArray⟩⟩ := by unfold RM.out; rw [hk, h4.2] <;> rfl
  have lv : (RM.vv l).length ≤ 1024 := by rw [h5.2]; exact tv_le _ _
  have N1 := Lib.hid (fun g w (h : RdrAt w g (some l)) => (show Calls Try.prog 23 #[.pointer (some ⟨g, 0, none⟩), .int .i64 3] w (RdrPost (.int .i64 3) (RM.o1 l) g w) from (by have := rNumber_any g 3 (some l) w h (by omega); rw [show RM.nv 3 (some l) = 3 from hk] at this; exact this)))
  have N2 := Lib.hid (fun g w (h : RdrAt w g (RM.o1 l)) => (show Calls Try.prog 23 #[.pointer (some ⟨g, 0, none⟩), .int .i64 3] w (RdrPost (.int .i64 (RM.gg l)) (RM.o2 l) g w) from rNumber_any g 3 (RM.o1 l) w h (by omega)))
  have N3 := Lib.hid (fun g w (h : RdrAt w g (RM.o2 l)) => (show Calls Try.prog 23 #[.pointer (some ⟨g, 0, none⟩), .int .i64 200] w (RdrPost (.int .i64 (RM.ss l)) (RM.o3 l) g w) from rNumber_any g 200 (RM.o2 l) w h (by omega)))
  have E4 := Lib.hid h4.1
  have N5 := Lib.hid (fun g w (h : RdrAt w g (RM.o4 l)) => (show Calls Try.prog 24 #[.pointer (some ⟨g, 0, none⟩), .int .i64 1024] w (RdrPost (.string ⟨(RM.vv l).toArray⟩) (RM.o5 l) g w) from (by rw [h5.1, h5.2]; exact rText_any g 1024 (RM.o4 l) w h (by omega))))
  have ND := Lib.hid (fun g w (h : RdrAt w g (RM.o5 l)) => rDone_any g (RM.o5 l) w h)
  have CM := Lib.hid (fun w => rmay_any 3 (RM.gg l) (RM.ss l) 0 ⟨(RM.vv l).toArray⟩ w (by show Array.size _ ≤ _; unfold maxLen; simp; omega))
  have HB := Lib.hid (show Below w.heap.size w (w.alloc (.cells #[.int .u8 0, .int .i64 0, .int .i64 0, .int .i64 0, .string ⟨#[]⟩] 26)) from (Below.refl _ _).alloc (Nat.le_refl _) _)
  have R := Lib.hid (Box.new w 26 #[.int .u8 0, .int .i64 0, .int .i64 0, .int .i64 0, .string ⟨#[]⟩])
  obtain ⟨A, c, w1, hcv, hR, hc1, hc2, hb1⟩ := conv_ex (w.alloc (.cells #[.int .u8 0, .int .i64 0, .int .i64 0, .int .i64 0, .string ⟨#[]⟩] 26)) s hs
  rw [hl] at hR
  have S := Lib.hid (rs_new (R.out.below hb1 R.out.lt) (bmore HB.out hb1 (by simp)) hR hc1 hc2)
  have HO := Lib.hid hout
  have H := Lib.hid h
  clear h4 h5 hout lv HB R hR hb1 h hk
  go_enter Try.func12, Try.ntmps12
  go_upto_region 2 with (fail)
  generalize w1.alloc (.cells #[.slice A s.size c, .bool false] 51) = w2 at S ⊢
  generalize w1.heap.size = g at S ⊢
  go_wp2_with fail
  refine (N1.out g w2 S.out.2.1).mono ?_
  rintro e1 w3 ⟨rfl, hn⟩
  replace S := Lib.hid (S.out.num hn); clear hn N1
  go_wp2_with fail
  refine (N2.out g w3 S.out.2.1).mono ?_
  rintro e1 w4 ⟨rfl, hn⟩
  replace S := Lib.hid (S.out.num hn); clear hn N2
  go_wp2_with fail
  refine (N3.out g w4 S.out.2.1).mono ?_
  rintro e1 w5 ⟨rfl, hn⟩
  replace S := Lib.hid (S.out.num hn); clear hn N3
  go_upto_region 6 with (fail)
  replace S := Lib.hid (S.out.alloc #[.int .u8 3, .int .i64 (RM.gg l), .int .i64 (RM.ss l), .int .i64 0, .string ⟨#[]⟩])
  generalize w5.alloc (.cells #[.int .u8 3, .int .i64 (RM.gg l), .int .i64 (RM.ss l), .int .i64 0, .string ⟨#[]⟩] 26) = w6 at S ⊢
  generalize w5.heap.size = h at S ⊢
  obtain ⟨⟨c0, c1, c2, c3, c4⟩, f0, f1, f2, f3, f4⟩ := rbox5 S.out.2.1
  rw [← E4.out] at S
  go_wp2_with fail
  clear c0 c1 c2 c3 c4 f0 f1 f2 f3 f4
  refine (N5.out g w6 S.out.1.2.1).mono ?_
  rintro e1 w7 ⟨rfl, hn⟩
  replace S := Lib.hid (S.out.num hn); clear hn N5
  obtain ⟨⟨c0, c1, c2, c3, c4⟩, f0, f1, f2, f3, f4⟩ := rbox5 S.out.2.1
  go_upto_region 10 with (fail)
  clear c0 c1 c2 c3 c4 f0 f1 f2 f3 f4
  replace S := Lib.hid (show RT w _ g h (RM.o5 l) #[.int .u8 3, .int .i64 (RM.gg l), .int .i64 (RM.ss l), .int .i64 0, .string ⟨(RM.vv l).toArray⟩] from S.out.put 4 (.string ⟨(RM.vv l).toArray⟩))
  generalize w7.setCell ⟨h, 4, none⟩ _ = w6 at S ⊢
  obtain ⟨⟨c0, c1, c2, c3, c4⟩, f0, f1, f2, f3, f4⟩ := rbox5 S.out.2.1
  obtain ⟨⟨d0, d1, d2, d3, d4⟩, g0, g1, g2, g3, g4⟩ := rbox5 S.out.1.1
  have HB := Lib.hid S.out.1.2.2.2.2
  go_wp2_with fail
  refine (ND.out g w6 S.out.1.2.1).mono ?_
  rintro e1 w7 ⟨rfl, rfl⟩
  clear f0 f1 f2 f3 f4
  by_cases hd : RM.o5 l = some []
  · rw [decide_eq_true hd]
    have HD := Lib.hid hd
    clear hd
    go_wp2_with fail
    refine (CM.out _).mono ?_
    rintro e1 w8 ⟨x, hx, rfl, hb⟩
    have HX := Lib.hid hx
    have HB8 := Lib.hid (bmore HB.out hb (Nat.le_refl _))
    obtain ⟨⟨d0, d1, d2, d3, d4⟩, g0, g1, g2, g3, g4⟩ := rbox5 (S.out.1.1.below hb S.out.1.1.lt)
    obtain ⟨⟨c0, c1, c2, c3, c4⟩, f0, f1, f2, f3, f4⟩ := rbox5 (S.out.2.1.below hb S.out.2.1.lt)
    have hwh : w.heap.size ≠ h := by have h1 := S.out.2.2; have h2 := S.out.1.2.2.1; omega
    clear hb hx S
    cases x
    · obtain ⟨rfl, rfl⟩ := RM.readIs_eq H.out (RM.readIs_chain l RM.zero 8 (.inr ⟨fun h => (by have := HX.out.2 (by rw [← HO.out]; exact h.2); cases this), rfl, rfl⟩))
      go_wp2_with fail
      exact bodyPost_ret (v := .tuple #[.agg #[.int .u8 0, .int .i64 0, .int .i64 0, .int .i64 0, .string ⟨#[]⟩], .int .i64 8]) (by simp [results, Try.results12, go_sem, d0, d1, d2, d3, d4]; try rfl) rfl ⟨rfl, rbelow_put5 HB8.out (Nat.le_refl _) _ _ _ _ _⟩
    · obtain ⟨rfl, rfl⟩ := RM.readIs_eq H.out (RM.readIs_chain l _ 0 (.inl ⟨HD.out, by rw [HO.out]; exact HX.out.1 rfl, rfl, rfl⟩))
      go_wp2_with fail
      exact bodyPost_ret (v := .tuple #[.agg #[.int .u8 3, .int .i64 (RM.gg l), .int .i64 (RM.ss l), .int .i64 0, .string ⟨(RM.vv l).toArray⟩], .int .i64 0]) (by simp [results, Try.results12, go_sem, d0, d1, d2, d3, d4]; try rfl) rfl ⟨by rw [HO.out], rbelow_put5 HB8.out (Nat.le_refl _) _ _ _ _ _⟩
  · obtain ⟨rfl, rfl⟩ := RM.readIs_eq H.out (RM.readIs_chain l RM.zero 8 (.inr ⟨fun h => hd h.1, rfl, rfl⟩))
    rw [decide_eq_false hd]
    clear hd S
    go_wp2_with fail
    exact bodyPost_ret (v := .tuple #[.agg #[.int .u8 0, .int .i64 0, .int .i64 0, .int .i64 0, .string ⟨#[]⟩], .int .i64 8]) (by simp [results, Try.results12, go_sem, d0, d1, d2, d3, d4]; try rfl) rfl ⟨rfl, rbelow_put5 HB.out (Nat.le_refl _) _ _ _ _ _⟩

set_option maxRecDepth 100000 in
set_option maxHeartbeats 4000000 in
theorem rread_1 {r : RM.Rc} {e : Int} (s : ByteArray) (l : List UInt8) (hl : RM.bsz s = l) (hk : RM.kk l = 1) (h : RM.ReadIs l r e) (hs : s.size ≤ maxLen) (w : World) :
    Calls Try.prog 12 #[.string s] w (RcAns r e w) := by
  have h4 : RM.o4 l = RM.nx 8388613 (RM.o3 l) ∧ RM.bb l = RM.nv 8388613 (RM.o3 l) := by unfold RM.o4 RM.bb; rw [hk]; simp
  have h5 : RM.o5 l = RM.o4 l ∧ RM.vv l = [] := by unfold RM.o5 RM.vv; rw [hk]; simp
  have hout : RM.out l = ⟨1, RM.gg l, RM.ss l, (RM.bb l : Nat), ⟨#[]⟩⟩ := by unfold RM.out; rw [hk, h5.2] <;> rfl
  have lv : (RM.vv l).length ≤ 1024 := by rw [h5.2]; simp
  have N1 := Lib.hid (fun g w (h : RdrAt w g (some l)) => (show Calls Try.prog 23 #[.pointer (some ⟨g, 0, none⟩), .int .i64 3] w (RdrPost (.int .i64 1) (RM.o1 l) g w) from (by have := rNumber_any g 3 (some l) w h (by omega); rw [show RM.nv 3 (some l) = 1 from hk] at this; exact this)))
  have N2 := Lib.hid (fun g w (h : RdrAt w g (RM.o1 l)) => (show Calls Try.prog 23 #[.pointer (some ⟨g, 0, none⟩), .int .i64 3] w (RdrPost (.int .i64 (RM.gg l)) (RM.o2 l) g w) from rNumber_any g 3 (RM.o1 l) w h (by omega)))
  have N3 := Lib.hid (fun g w (h : RdrAt w g (RM.o2 l)) => (show Calls Try.prog 23 #[.pointer (some ⟨g, 0, none⟩), .int .i64 200] w (RdrPost (.int .i64 (RM.ss l)) (RM.o3 l) g w) from rNumber_any g 200 (RM.o2 l) w h (by omega)))
  have N4 := Lib.hid (fun g w (h : RdrAt w g (RM.o3 l)) => (show Calls Try.prog 23 #[.pointer (some ⟨g, 0, none⟩), .int .i64 8388613] w (RdrPost (.int .i64 (RM.bb l)) (RM.o4 l) g w) from (by rw [h4.1, h4.2]; exact rNumber_any g 8388613 (RM.o3 l) w h (by omega))))
  have E5 := Lib.hid h5.1
  have ND := Lib.hid (fun g w (h : RdrAt w g (RM.o5 l)) => rDone_any g (RM.o5 l) w h)
  have CM := Lib.hid (fun w => rmay_any 1 (RM.gg l) (RM.ss l) (RM.bb l : Nat) ⟨#[]⟩ w (by decide))
  have HB := Lib.hid (show Below w.heap.size w (w.alloc (.cells #[.int .u8 0, .int .i64 0, .int .i64 0, .int .i64 0, .string ⟨#[]⟩] 26)) from (Below.refl _ _).alloc (Nat.le_refl _) _)
  have R := Lib.hid (Box.new w 26 #[.int .u8 0, .int .i64 0, .int .i64 0, .int .i64 0, .string ⟨#[]⟩])
  obtain ⟨A, c, w1, hcv, hR, hc1, hc2, hb1⟩ := conv_ex (w.alloc (.cells #[.int .u8 0, .int .i64 0, .int .i64 0, .int .i64 0, .string ⟨#[]⟩] 26)) s hs
  rw [hl] at hR
  have S := Lib.hid (rs_new (R.out.below hb1 R.out.lt) (bmore HB.out hb1 (by simp)) hR hc1 hc2)
  have HO := Lib.hid hout
  have H := Lib.hid h
  clear h4 h5 hout lv HB R hR hb1 h hk
  go_enter Try.func12, Try.ntmps12
  go_upto_region 2 with (fail)
  generalize w1.alloc (.cells #[.slice A s.size c, .bool false] 51) = w2 at S ⊢
  generalize w1.heap.size = g at S ⊢
  go_wp2_with fail
  refine (N1.out g w2 S.out.2.1).mono ?_
  rintro e1 w3 ⟨rfl, hn⟩
  replace S := Lib.hid (S.out.num hn); clear hn N1
  go_wp2_with fail
  refine (N2.out g w3 S.out.2.1).mono ?_
  rintro e1 w4 ⟨rfl, hn⟩
  replace S := Lib.hid (S.out.num hn); clear hn N2
  go_wp2_with fail
  refine (N3.out g w4 S.out.2.1).mono ?_
  rintro e1 w5 ⟨rfl, hn⟩
  replace S := Lib.hid (S.out.num hn); clear hn N3
  go_upto_region 6 with (fail)
  replace S := Lib.hid (S.out.alloc #[.int .u8 1, .int .i64 (RM.gg l), .int .i64 (RM.ss l), .int .i64 0, .string ⟨#[]⟩])
  generalize w5.alloc (.cells #[.int .u8 1, .int .i64 (RM.gg l), .int .i64 (RM.ss l), .int .i64 0, .string ⟨#[]⟩] 26) = w6 at S ⊢
  generalize w5.heap.size = h at S ⊢
  obtain ⟨⟨c0, c1, c2, c3, c4⟩, f0, f1, f2, f3, f4⟩ := rbox5 S.out.2.1
  go_wp2_with fail
  clear c0 c1 c2 c3 c4 f0 f1 f2 f3 f4
  refine (N4.out g w6 S.out.1.2.1).mono ?_
  rintro e1 w7 ⟨rfl, hn⟩
  replace S := Lib.hid (S.out.num hn); clear hn N4
  obtain ⟨⟨c0, c1, c2, c3, c4⟩, f0, f1, f2, f3, f4⟩ := rbox5 S.out.2.1
  go_upto_region 8 with (fail)
  clear c0 c1 c2 c3 c4 f0 f1 f2 f3 f4
  replace S := Lib.hid (show RT w _ g h (RM.o4 l) #[.int .u8 1, .int .i64 (RM.gg l), .int .i64 (RM.ss l), .int .i64 (RM.bb l), .string ⟨#[]⟩] from S.out.put 3 (.int .i64 (RM.bb l)))
  generalize w7.setCell ⟨h, 3, none⟩ _ = w6 at S ⊢
  obtain ⟨⟨c0, c1, c2, c3, c4⟩, f0, f1, f2, f3, f4⟩ := rbox5 S.out.2.1
  rw [← E5.out] at S
  obtain ⟨⟨d0, d1, d2, d3, d4⟩, g0, g1, g2, g3, g4⟩ := rbox5 S.out.1.1
  have HB := Lib.hid S.out.1.2.2.2.2
  go_wp2_with fail
  refine (ND.out g w6 S.out.1.2.1).mono ?_
  rintro e1 w7 ⟨rfl, rfl⟩
  clear f0 f1 f2 f3 f4
  by_cases hd : RM.o5 l = some []
  · rw [decide_eq_true hd]
    have HD := Lib.hid hd
    clear hd
    go_wp2_with fail
    refine (CM.out _).mono ?_
    rintro e1 w8 ⟨x, hx, rfl, hb⟩
    have HX := Lib.hid hx
    have HB8 := Lib.hid (bmore HB.out hb (Nat.le_refl _))
    obtain ⟨⟨d0, d1, d2, d3, d4⟩, g0, g1, g2, g3, g4⟩ := rbox5 (S.out.1.1.below hb S.out.1.1.lt)
    obtain ⟨⟨c0, c1, c2, c3, c4⟩, f0, f1, f2, f3, f4⟩ := rbox5 (S.out.2.1.below hb S.out.2.1.lt)
    have hwh : w.heap.size ≠ h := by have h1 := S.out.2.2; have h2 := S.out.1.2.2.1; omega
    clear hb hx S
    cases x
    · obtain ⟨rfl, rfl⟩ := RM.readIs_eq H.out (RM.readIs_chain l RM.zero 8 (.inr ⟨fun h => (by have := HX.out.2 (by rw [← HO.out]; exact h.2); cases this), rfl, rfl⟩))
      go_wp2_with fail
      exact bodyPost_ret (v := .tuple #[.agg #[.int .u8 0, .int .i64 0, .int .i64 0, .int .i64 0, .string ⟨#[]⟩], .int .i64 8]) (by simp [results, Try.results12, go_sem, d0, d1, d2, d3, d4]; try rfl) rfl ⟨rfl, rbelow_put5 HB8.out (Nat.le_refl _) _ _ _ _ _⟩
    · obtain ⟨rfl, rfl⟩ := RM.readIs_eq H.out (RM.readIs_chain l _ 0 (.inl ⟨HD.out, by rw [HO.out]; exact HX.out.1 rfl, rfl, rfl⟩))
      go_wp2_with fail
      exact bodyPost_ret (v := .tuple #[.agg #[.int .u8 1, .int .i64 (RM.gg l), .int .i64 (RM.ss l), .int .i64 (RM.bb l : Nat), .string ⟨#[]⟩], .int .i64 0]) (by simp [results, Try.results12, go_sem, d0, d1, d2, d3, d4]; try rfl) rfl ⟨by rw [HO.out], rbelow_put5 HB8.out (Nat.le_refl _) _ _ _ _ _⟩
  · obtain ⟨rfl, rfl⟩ := RM.readIs_eq H.out (RM.readIs_chain l RM.zero 8 (.inr ⟨fun h => hd h.1, rfl, rfl⟩))
    rw [decide_eq_false hd]
    clear hd S
    go_wp2_with fail
    exact bodyPost_ret (v := .tuple #[.agg #[.int .u8 0, .int .i64 0, .int .i64 0, .int .i64 0, .string ⟨#[]⟩], .int .i64 8]) (by simp [results, Try.results12, go_sem, d0, d1, d2, d3, d4]; try rfl) rfl ⟨rfl, rbelow_put5 HB.out (Nat.le_refl _) _ _ _ _ _⟩

set_option maxRecDepth 100000 in
set_option maxHeartbeats 4000000 in
theorem rread_k (k : Nat) (k1 : k ≠ 1) (k3 : k ≠ 3) {r : RM.Rc} {e : Int} (s : ByteArray) (l : List UInt8) (hl : RM.bsz s = l) (hk : RM.kk l = k) (h : RM.ReadIs l r e) (hs : s.size ≤ maxLen) (w : World) :
    Calls Try.prog 12 #[.string s] w (RcAns r e w) := by
  have h4 : RM.o4 l = RM.nx 8388613 (RM.o3 l) ∧ RM.bb l = RM.nv 8388613 (RM.o3 l) := by unfold RM.o4 RM.bb; rw [hk]; rw [if_neg k3, if_neg k3]; exact ⟨rfl, rfl⟩
  have h5 : RM.o5 l = RM.tx 1024 (RM.o4 l) ∧ RM.vv l = RM.tv 1024 (RM.o4 l) := by unfold RM.o5 RM.vv; rw [hk]; rw [if_neg k1, if_neg k1]; exact ⟨rfl, rfl⟩
  have hout : RM.out l = ⟨(k : Int), RM.gg l, RM.ss l, (RM.bb l : Nat), ⟨(RM.vv l).toArray⟩⟩ := by unfold RM.out; rw [hk] <;> rfl
  have lv : (RM.vv l).length ≤ 1024 := by rw [h5.2]; exact tv_le _ _
  have N1 := Lib.hid (fun g w (h : RdrAt w g (some l)) => (show Calls Try.prog 23 #[.pointer (some ⟨g, 0, none⟩), .int .i64 3] w (RdrPost (.int .i64 (k : Int)) (RM.o1 l) g w) from (by have := rNumber_any g 3 (some l) w h (by omega); rw [show RM.nv 3 (some l) = k from hk] at this; exact this)))
  have N2 := Lib.hid (fun g w (h : RdrAt w g (RM.o1 l)) => (show Calls Try.prog 23 #[.pointer (some ⟨g, 0, none⟩), .int .i64 3] w (RdrPost (.int .i64 (RM.gg l)) (RM.o2 l) g w) from rNumber_any g 3 (RM.o1 l) w h (by omega)))
  have N3 := Lib.hid (fun g w (h : RdrAt w g (RM.o2 l)) => (show Calls Try.prog 23 #[.pointer (some ⟨g, 0, none⟩), .int .i64 200] w (RdrPost (.int .i64 (RM.ss l)) (RM.o3 l) g w) from rNumber_any g 200 (RM.o2 l) w h (by omega)))
  have N4 := Lib.hid (fun g w (h : RdrAt w g (RM.o3 l)) => (show Calls Try.prog 23 #[.pointer (some ⟨g, 0, none⟩), .int .i64 8388613] w (RdrPost (.int .i64 (RM.bb l)) (RM.o4 l) g w) from (by rw [h4.1, h4.2]; exact rNumber_any g 8388613 (RM.o3 l) w h (by omega))))
  have N5 := Lib.hid (fun g w (h : RdrAt w g (RM.o4 l)) => (show Calls Try.prog 24 #[.pointer (some ⟨g, 0, none⟩), .int .i64 1024] w (RdrPost (.string ⟨(RM.vv l).toArray⟩) (RM.o5 l) g w) from (by rw [h5.1, h5.2]; exact rText_any g 1024 (RM.o4 l) w h (by omega))))
  have ND := Lib.hid (fun g w (h : RdrAt w g (RM.o5 l)) => rDone_any g (RM.o5 l) w h)
  have CM := Lib.hid (fun w => rmay_any (k : Int) (RM.gg l) (RM.ss l) (RM.bb l : Nat) ⟨(RM.vv l).toArray⟩ w (by show Array.size _ ≤ _; unfold maxLen; simp; omega))
  have hk3 : k ≤ 3 := by rw [← hk]; exact nv_le _ _
  have e1 : ((k : Int) == 1) = false := by simp; omega
  have e3 : ((k : Int) == 3) = false := by simp; omega
  have HB := Lib.hid (show Below w.heap.size w (w.alloc (.cells #[.int .u8 0, .int .i64 0, .int .i64 0, .int .i64 0, .string ⟨#[]⟩] 26)) from (Below.refl _ _).alloc (Nat.le_refl _) _)
  have R := Lib.hid (Box.new w 26 #[.int .u8 0, .int .i64 0, .int .i64 0, .int .i64 0, .string ⟨#[]⟩])
  obtain ⟨A, c, w1, hcv, hR, hc1, hc2, hb1⟩ := conv_ex (w.alloc (.cells #[.int .u8 0, .int .i64 0, .int .i64 0, .int .i64 0, .string ⟨#[]⟩] 26)) s hs
  rw [hl] at hR
  have S := Lib.hid (rs_new (R.out.below hb1 R.out.lt) (bmore HB.out hb1 (by simp)) hR hc1 hc2)
  have HO := Lib.hid hout
  have H := Lib.hid h
  clear h4 h5 hout lv HB R hR hb1 h hk
  go_enter Try.func12, Try.ntmps12
  go_upto_region 2 with (fail)
  generalize w1.alloc (.cells #[.slice A s.size c, .bool false] 51) = w2 at S ⊢
  generalize w1.heap.size = g at S ⊢
  go_wp2_with fail
  refine (N1.out g w2 S.out.2.1).mono ?_
  rintro e1 w3 ⟨rfl, hn⟩
  replace S := Lib.hid (S.out.num hn); clear hn N1
  go_wp2_with fail
  refine (N2.out g w3 S.out.2.1).mono ?_
  rintro e1 w4 ⟨rfl, hn⟩
  replace S := Lib.hid (S.out.num hn); clear hn N2
  go_wp2_with fail
  refine (N3.out g w4 S.out.2.1).mono ?_
  rintro e1 w5 ⟨rfl, hn⟩
  replace S := Lib.hid (S.out.num hn); clear hn N3
  go_upto_region 6 with (fail)
  replace S := Lib.hid (S.out.alloc #[.int .u8 (k : Int), .int .i64 (RM.gg l), .int .i64 (RM.ss l), .int .i64 0, .string ⟨#[]⟩])
  generalize w5.alloc (.cells #[.int .u8 (k : Int), .int .i64 (RM.gg l), .int .i64 (RM.ss l), .int .i64 0, .string ⟨#[]⟩] 26) = w6 at S ⊢
  generalize w5.heap.size = h at S ⊢
  obtain ⟨⟨c0, c1, c2, c3, c4⟩, f0, f1, f2, f3, f4⟩ := rbox5 S.out.2.1
  go_wp2_with fail
  clear c0 c1 c2 c3 c4 f0 f1 f2 f3 f4
  refine (N4.out g w6 S.out.1.2.1).mono ?_
  rintro e1 w7 ⟨rfl, hn⟩
  replace S := Lib.hid (S.out.num hn); clear hn N4
  obtain ⟨⟨c0, c1, c2, c3, c4⟩, f0, f1, f2, f3, f4⟩ := rbox5 S.out.2.1
  go_upto_region 8 with (fail)
  clear c0 c1 c2 c3 c4 f0 f1 f2 f3 f4
  replace S := Lib.hid (show RT w _ g h (RM.o4 l) #[.int .u8 (k : Int), .int .i64 (RM.gg l), .int .i64 (RM.ss l), .int .i64 (RM.bb l), .string ⟨#[]⟩] from S.out.put 3 (.int .i64 (RM.bb l)))
  generalize w7.setCell ⟨h, 3, none⟩ _ = w6 at S ⊢
  obtain ⟨⟨c0, c1, c2, c3, c4⟩, f0, f1, f2, f3, f4⟩ := rbox5 S.out.2.1
  go_wp2_with fail
  clear c0 c1 c2 c3 c4 f0 f1 f2 f3 f4
  refine (N5.out g w6 S.out.1.2.1).mono ?_
  rintro e1 w7 ⟨rfl, hn⟩
  replace S := Lib.hid (S.out.num hn); clear hn N5
  obtain ⟨⟨c0, c1, c2, c3, c4⟩, f0, f1, f2, f3, f4⟩ := rbox5 S.out.2.1
  go_upto_region 10 with (fail)
  clear c0 c1 c2 c3 c4 f0 f1 f2 f3 f4
  replace S := Lib.hid (show RT w _ g h (RM.o5 l) #[.int .u8 (k : Int), .int .i64 (RM.gg l), .int .i64 (RM.ss l), .int .i64 (RM.bb l : Nat), .string ⟨(RM.vv l).toArray⟩] from S.out.put 4 (.string ⟨(RM.vv l).toArray⟩))
  generalize w7.setCell ⟨h, 4, none⟩ _ = w6 at S ⊢
  obtain ⟨⟨c0, c1, c2, c3, c4⟩, f0, f1, f2, f3, f4⟩ := rbox5 S.out.2.1
  obtain ⟨⟨d0, d1, d2, d3, d4⟩, g0, g1, g2, g3, g4⟩ := rbox5 S.out.1.1
  have HB := Lib.hid S.out.1.2.2.2.2
  go_wp2_with fail
  refine (ND.out g w6 S.out.1.2.1).mono ?_
  rintro e1 w7 ⟨rfl, rfl⟩
  clear f0 f1 f2 f3 f4
  by_cases hd : RM.o5 l = some []
  · rw [decide_eq_true hd]
    have HD := Lib.hid hd
    clear hd
    go_wp2_with fail
    refine (CM.out _).mono ?_
    rintro e1 w8 ⟨x, hx, rfl, hb⟩
    have HX := Lib.hid hx
    have HB8 := Lib.hid (bmore HB.out hb (Nat.le_refl _))
    obtain ⟨⟨d0, d1, d2, d3, d4⟩, g0, g1, g2, g3, g4⟩ := rbox5 (S.out.1.1.below hb S.out.1.1.lt)
    obtain ⟨⟨c0, c1, c2, c3, c4⟩, f0, f1, f2, f3, f4⟩ := rbox5 (S.out.2.1.below hb S.out.2.1.lt)
    have hwh : w.heap.size ≠ h := by have h1 := S.out.2.2; have h2 := S.out.1.2.2.1; omega
    clear hb hx S
    cases x
    · obtain ⟨rfl, rfl⟩ := RM.readIs_eq H.out (RM.readIs_chain l RM.zero 8 (.inr ⟨fun h => (by have := HX.out.2 (by rw [← HO.out]; exact h.2); cases this), rfl, rfl⟩))
      go_wp2_with fail
      exact bodyPost_ret (v := .tuple #[.agg #[.int .u8 0, .int .i64 0, .int .i64 0, .int .i64 0, .string ⟨#[]⟩], .int .i64 8]) (by simp [results, Try.results12, go_sem, d0, d1, d2, d3, d4]; try rfl) rfl ⟨rfl, rbelow_put5 HB8.out (Nat.le_refl _) _ _ _ _ _⟩
    · obtain ⟨rfl, rfl⟩ := RM.readIs_eq H.out (RM.readIs_chain l _ 0 (.inl ⟨HD.out, by rw [HO.out]; exact HX.out.1 rfl, rfl, rfl⟩))
      go_wp2_with fail
      exact bodyPost_ret (v := .tuple #[.agg #[.int .u8 (k : Int), .int .i64 (RM.gg l), .int .i64 (RM.ss l), .int .i64 (RM.bb l : Nat), .string ⟨(RM.vv l).toArray⟩], .int .i64 0]) (by simp [results, Try.results12, go_sem, d0, d1, d2, d3, d4]; try rfl) rfl ⟨by rw [HO.out], rbelow_put5 HB8.out (Nat.le_refl _) _ _ _ _ _⟩
  · obtain ⟨rfl, rfl⟩ := RM.readIs_eq H.out (RM.readIs_chain l RM.zero 8 (.inr ⟨fun h => hd h.1, rfl, rfl⟩))
    rw [decide_eq_false hd]
    clear hd S
    go_wp2_with fail
    exact bodyPost_ret (v := .tuple #[.agg #[.int .u8 0, .int .i64 0, .int .i64 0, .int .i64 0, .string ⟨#[]⟩], .int .i64 8]) (by simp [results, Try.results12, go_sem, d0, d1, d2, d3, d4]; try rfl) rfl ⟨rfl, rbelow_put5 HB.out (Nat.le_refl _) _ _ _ _ _⟩

theorem rread_any {r : RM.Rc} {e : Int} (s : ByteArray) (h : RM.ReadIs (RM.bsz s) r e) (hs : s.size ≤ maxLen) (w : World) :
    Calls Try.prog 12 #[.string s] w (RcAns r e w) := by
  by_cases k3 : RM.kk (RM.bsz s) = 3
  · exact rread_3 s _ rfl k3 h hs w
  by_cases k1 : RM.kk (RM.bsz s) = 1
  · exact rread_1 s _ rfl k1 h hs w
  exact rread_k _ k1 k3 s _ rfl rfl h hs w
end Go.Proofs.Ytoebokfhlbffaaa.RP
