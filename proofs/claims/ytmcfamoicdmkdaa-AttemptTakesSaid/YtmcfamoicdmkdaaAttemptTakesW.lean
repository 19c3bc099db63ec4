/-
  AttemptTakes' walk: an attempt checked, compared, copied, with a promise and an acceptance, beside the document's own. Conditions: what the arguments are.
-/
import Derived.Test.YtmcfamoicdmkdaaAttRP
import Derived.Test.YtmcfamoicdmkdaaAttRU
import Derived.Test.YtmcfamoicdmkdaaAttFit
import Derived.Test.YtmcfamoicdmkdaaAttFar
import Derived.Test.YtmcfamoicdmkdaaAttArgC
namespace Go.Proofs.Ytmcfamoicdmkdaa
open Go.RowKit
set_option linter.unusedVariables false
set_option linter.unusedSimpArgs false

theorem below_within {B lo hi : Nat} {a b c : World} (h : Below B a b) (k : Within lo hi b c) (hB : B ≤ lo) (hs : B ≤ a.heap.size) : Below B a c := h.trans (k.below hB (Nat.le_trans hs h.size))
set_option maxRecDepth 100000 in
set_option maxHeartbeats 40000000 in
theorem attemptTakes_walk (v : Value) (a : AM.At) (vo : Value) (o : AM.At) (b : Int) (v1 : Value) (p : AM.Pr) (nd : Int) (w : World) (HA2 : AttArg w v a ∧ AtCap v) (HO2 : AttArg w vo o ∧ AtCap vo) (hb1 : (Lit.int .i64 b).wf = true) (hp : PrArg v1 p) (hn1 : (Lit.int .i64 nd).wf = true) :
    Calls Try.prog 4 #[v, vo, .int .i64 b, v1, .int .i64 nd] w fun e w' => e = .returned (.bool true) ∧ Below w.heap.size w w' := by
  obtain ⟨⟨HA, FA⟩, HCap⟩ := HA2
  obtain ⟨⟨HO, FO⟩, _⟩ := HO2
  obtain ⟨rfl, FP⟩ := hp
  have H' := Lib.hid HA
  have K' := Lib.hid HO
  have hpv : p.v.size ≤ 9223372036854775807 := by have := FP.v; unfold maxLen at this; omega
  obtain ⟨A, n, c, B, m, d, C, k, f, rfl, h1, h2, h3⟩ := HA
  obtain ⟨A', n', c', B', m', d', C', k', f', rfl, i1, i2, i3⟩ := HO
  clear h1 h2 h3 i1 i2 i3 hb1 hn1
  obtain ⟨W0, hW0⟩ : ∃ W0, W0 = ((w.alloc (.cells #[.int .u8 a.ph, .int .i64 a.ba, .slice A n c, .string a.wi, .string a.va, .slice B m d, .slice C k f] 25)).alloc (.cells #[.int .u8 o.ph, .int .i64 o.ba, .slice A' n' c', .string o.wi, .string o.va, .slice B' m' d', .slice C' k' f'] 25)).alloc (.cells #[.int .i64 p.n, .int .i64 p.b, .string p.v] 31) := ⟨_, rfl⟩
  have hb0 : Below w.heap.size w W0 := by rw [hW0]; exact (((Below.refl _ _).alloc (Nat.le_refl _) _).alloc (by simp) _).alloc (by simp; omega) _
  have XA := Lib.hid (show Box W0 w.heap.size 25 #[.int .u8 a.ph, .int .i64 a.ba, .slice A n c, .string a.wi, .string a.va, .slice B m d, .slice C k f] by rw [hW0]; exact ((Box.new _ _ _).alloc _).alloc _)
  have XO := Lib.hid (show Box W0 (w.heap.size + 1) 25 #[.int .u8 o.ph, .int .i64 o.ba, .slice A' n' c', .string o.wi, .string o.va, .slice B' m' d', .slice C' k' f'] by rw [hW0]; exact (Box.new_at _ (by simp)).alloc _)
  have XP := Lib.hid (show Box W0 (w.heap.size + 1 + 1) 31 #[.int .i64 p.n, .int .i64 p.b, .string p.v] by rw [hW0]; exact Box.new_at _ (by simp))
  have B0 := Lib.hid hb0
  have BB := Lib.hid (Below.refl W0.heap.size W0)
  have HIS := Lib.hid (fun (W : World) (hb : Below W0.heap.size W0 W) => H'.out.below (bmore hb0 hb (Nat.le_refl _)))
  have HIO := Lib.hid (fun (W : World) (hb : Below W0.heap.size W0 W) => K'.out.below (bmore hb0 hb (Nat.le_refl _)))
  clear hb0 H' K'
  have HGA := Lib.hid (fun (W : World) (hb : Below W0.heap.size W0 W) => great_any _ a W (HIS.out W hb) FA)
  have HGO := Lib.hid (fun (W : World) (hb : Below W0.heap.size W0 W) => great_any _ o W (HIO.out W hb) FO)
  have HFA := Lib.hid (FA.fit); clear FA
  have HFO := Lib.hid (FO.fit); clear FO
  go_enter Try.func4, Try.ntmps4
  go_wp2_with fail
  rw [← hW0]
  clear hW0
  refine (HGA.out _ BB.out).mono ?_
  rintro e wg ⟨gr, rfl, hgr, hb⟩
  replace BB := Lib.hid (bmore BB.out hb (Nat.le_refl _))
  clear hb HGA
  rcases gr with _ | _
  rotate_left
  · go_wp2_with fail
    go_ret
    exact ⟨rfl, bmore B0.out BB.out (Nat.le_refl _)⟩
  obtain ⟨l1, l2, l3⟩ := hgr rfl
  have F := HFA.out l1 l2 l3
  clear hgr HFA l1 l2 l3
  obtain ⟨⟨ta0, ta1, ta2, ta3, ta4, ta5, ta6⟩, _⟩ := (XO.out.below BB.out XO.out.lt).seven
  go_wp2_with fail
  clear ta0 ta1 ta2 ta3 ta4 ta5 ta6
  refine (HGO.out _ BB.out).mono ?_
  rintro e wh ⟨gr, rfl, hgr, hb⟩
  replace BB := Lib.hid (bmore BB.out hb (Nat.le_refl _))
  clear hb HGO
  obtain ⟨tp0, tp1, tp2, _⟩ := (XP.out.below BB.out XP.out.lt).three
  rcases gr with _ | _
  rotate_left
  · go_wp2_with fail
    go_ret
    exact ⟨rfl, bmore B0.out BB.out (Nat.le_refl _)⟩
  obtain ⟨l1, l2, l3⟩ := hgr rfl
  have FO := HFO.out l1 l2 l3
  clear hgr HFO l1 l2 l3
  by_cases sp : 5000 < p.v.size
  · have sp1 : decide ((5000 : Int) < (p.v.size : Int)) = true := by simp; omega
    have sp2 : decide (5000 < p.v.size) = true := by simp; omega
    go_wp2_with fail
    go_ret
    exact ⟨rfl, bmore B0.out BB.out (Nat.le_refl _)⟩
  have sp1 : decide ((5000 : Int) < (p.v.size : Int)) = false := by simp; omega
  have sp2 : decide (5000 < p.v.size) = false := by simp; omega
  go_upto_region 3 with (fail)
  clear sp sp1 sp2 tp0 tp1 tp2
  have CTW := fun W hb => rtwin_any _ a W (HIS.out W hb) F
  have CP := fun W v (h : AtIs W v a) => prom_any v a b p W h F FP
  have CRP := fun W hb => rprom_any _ a b p W (HIS.out W hb) F FP HCap
  have CA := fun W v (h : AtIs W v a) => accd_any v a b nd W h F
  have CRA := fun W hb => raccd_any _ a b nd W (HIS.out W hb) F HCap
  have CT := fun W v (h : AtIs W v a) => twin_any v a W h F
  have CCK := fun W v (h : AtIs W v a) => acheck_any v a W h F
  have CMY := fun W hb => rmay_any _ a W (HIS.out W hb) F
  have CS1 := fun W v (h : AtIs W v a) hb => same_any v a _ o W h (HIO.out W hb) F FO
  have CS2 := fun W hb => rsame_any _ a _ o W (HIS.out W hb) (HIO.out W hb) F FO
  have CSA : ∀ W v u, AtIs W v a → AtIs W u a → Calls Try.prog 20 #[v, u] W (BoolIs true W) := fun W v u h k => by have := rsame_any v a u a W h k F F; rwa [show decide (a = a) = true by simp] at this
  have fx : Fit (AM.prom a b p) := fit_prom F FP
  have fu : Fit (AM.acc a b nd) := fit_acc F
  have fa := F
  generalize AM.prom a b p = x at *
  generalize AM.errP a b p = e1 at *
  generalize AM.acc a b nd = u at *
  generalize AM.errA a b nd = e2 at *
  generalize decide (a = o) = ro at *
  obtain ⟨y, hy⟩ : ∃ y, y = if AM.may a = true then (0 : Int) else 8 := ⟨_, rfl⟩
  rw [← hy] at CCK
  generalize AM.may a = mb at *
  have CSX : ∀ W v u', AtIs W v x → AtIs W u' x → Calls Try.prog 20 #[v, u'] W (BoolIs true W) := fun W v u' h k => by have := rsame_any v x u' x W h k fx fx; rwa [show decide (x = x) = true by simp] at this
  have CSU : ∀ W v u', AtIs W v u → AtIs W u' u → Calls Try.prog 20 #[v, u'] W (BoolIs true W) := fun W v u' h k => by have := rsame_any v u u' u W h k fu fu; rwa [show decide (u = u) = true by simp] at this
  replace CTW := Lib.hid CTW
  replace CP := Lib.hid CP
  replace CRP := Lib.hid CRP
  replace CA := Lib.hid CA
  replace CRA := Lib.hid CRA
  replace CT := Lib.hid CT
  replace CCK := Lib.hid CCK
  replace CMY := Lib.hid CMY
  replace CS1 := Lib.hid CS1
  replace CS2 := Lib.hid CS2
  replace CSA := Lib.hid CSA
  replace CSX := Lib.hid CSX
  replace CSU := Lib.hid CSU
  have FX := Lib.hid fx
  have FU := Lib.hid fu
  have FAA := Lib.hid fa
  have HY := Lib.hid hy
  clear fx fu fa hy F FO FP hpv HCap
  obtain ⟨⟨ta0, ta1, ta2, ta3, ta4, ta5, ta6⟩, _⟩ := (XA.out.below BB.out XA.out.lt).seven
  go_wp2_with fail
  clear ta0 ta1 ta2 ta3 ta4 ta5 ta6
  refine (CTW.out _ BB.out).mono ?_
  rintro e w11 ⟨v, rfl, own, hb⟩
  replace own := own.own
  obtain ⟨A11, c11, D11, q11, C11, f11, rfl⟩ := own.form
  have hb2 : Below wh.heap.size wh (w11.alloc (.cells #[.int .u8 a.ph, .int .i64 a.ba, .slice A11 a.ms.length c11, .string a.wi, .string a.va, .slice D11 a.ps.length q11, .slice C11 a.ac.length f11] 25)) := hb.alloc hb.size _
  have hbg : wh.heap.size ≤ w11.heap.size := hb.size
  replace BB := Lib.hid (bmore BB.out hb2 (Nat.le_refl _))
  have X11 := Lib.hid (Box.new w11 25 #[.int .u8 a.ph, .int .i64 a.ba, .slice A11 a.ms.length c11, .string a.wi, .string a.va, .slice D11 a.ps.length q11, .slice C11 a.ac.length f11])
  have O11 := Lib.hid (own.alloc (.cells #[.int .u8 a.ph, .int .i64 a.ba, .slice A11 a.ms.length c11, .string a.wi, .string a.va, .slice D11 a.ps.length q11, .slice C11 a.ac.length f11] 25))
  clear hb hb2 own
  go_upto_region 4 with (fail)
  generalize w11.alloc (.cells #[.int .u8 a.ph, .int .i64 a.ba, .slice A11 a.ms.length c11, .string a.wi, .string a.va, .slice D11 a.ps.length q11, .slice C11 a.ac.length f11] 25) = u11 at X11 O11 BB ⊢
  generalize w11.heap.size = g11 at X11 hbg ⊢
  have HLE := Lib.hid BB.out.size
  have I11 := Lib.hid O11.out.is
  clear O11 hbg
  have BL := Lib.hid (Below.refl u11.heap.size u11)
  obtain ⟨⟨tx0, tx1, tx2, tx3, tx4, tx5, tx6⟩, _⟩ := X11.out.seven
  obtain ⟨tp0, tp1, tp2, _⟩ := (XP.out.below BB.out XP.out.lt).three
  go_wp2_with fail
  clear tx0 tx1 tx2 tx3 tx4 tx5 tx6
  clear tp0 tp1 tp2
  refine (CP.out _ _ (I11.out.below BL.out)).mono ?_
  rintro e w12 ⟨v, rfl, own, hb⟩
  obtain ⟨A12, c12, D12, q12, C12, f12, rfl⟩ := own.form
  have hb2 : Below u11.heap.size u11 (w12.alloc (.cells #[.int .u8 x.ph, .int .i64 x.ba, .slice A12 x.ms.length c12, .string x.wi, .string x.va, .slice D12 x.ps.length q12, .slice C12 x.ac.length f12] 25)) := hb.alloc hb.size _
  have hbg : u11.heap.size ≤ w12.heap.size := hb.size
  have hpb : g11 < u11.heap.size := X11.out.lt
  have hlb0 : u11.heap.size ≤ u11.heap.size := BL.out.size
  replace X11 := Lib.hid (X11.out.below hb2 X11.out.lt)
  replace BL := Lib.hid (bmore BL.out hb2 (Nat.le_refl _))
  replace BB := Lib.hid (bmore BB.out hb2 (Nat.le_refl _))
  have X12 := Lib.hid (Box.new w12 25 #[.int .u8 x.ph, .int .i64 x.ba, .slice A12 x.ms.length c12, .string x.wi, .string x.va, .slice D12 x.ps.length q12, .slice C12 x.ac.length f12])
  have O12 := Lib.hid (own.alloc (.cells #[.int .u8 x.ph, .int .i64 x.ba, .slice A12 x.ms.length c12, .string x.wi, .string x.va, .slice D12 x.ps.length q12, .slice C12 x.ac.length f12] 25))
  have R12 := Lib.hid ((rowsOk_own own).below ((Below.refl w12.heap.size w12).alloc (Nat.le_refl _) (.cells #[.int .u8 x.ph, .int .i64 x.ba, .slice A12 x.ms.length c12, .string x.wi, .string x.va, .slice D12 x.ps.length q12, .slice C12 x.ac.length f12] 25)))
  clear hb hb2 own
  go_upto_region 5 with (fail)
  generalize w12.alloc (.cells #[.int .u8 x.ph, .int .i64 x.ba, .slice A12 x.ms.length c12, .string x.wi, .string x.va, .slice D12 x.ps.length q12, .slice C12 x.ac.length f12] 25) = u12 at X11 X12 O12 R12 BB BL ⊢
  generalize w12.heap.size = g12 at X12 hbg R12 ⊢
  obtain ⟨b12, hbt⟩ : ∃ z, z = u11.heap.size := ⟨_, rfl⟩
  have hlb : u11.heap.size ≤ b12 := by rw [hbt]; exact hlb0
  rw [← hbt] at hbg hpb O12 R12
  clear hbt hlb0
  have P12 := Lib.hid (And.intro hpb (And.intro hlb hbg))
  clear hpb hlb hbg
  obtain ⟨⟨ta0, ta1, ta2, ta3, ta4, ta5, ta6⟩, _⟩ := (XA.out.below BB.out XA.out.lt).seven
  obtain ⟨tp0, tp1, tp2, _⟩ := (XP.out.below BB.out XP.out.lt).three
  go_wp2_with fail
  clear ta0 ta1 ta2 ta3 ta4 ta5 ta6
  clear tp0 tp1 tp2
  refine (CRP.out _ BB.out).mono ?_
  rintro e w14 ⟨v, rfl, own, hb⟩
  obtain ⟨A14, c14, D14, q14, C14, f14, rfl⟩ := own.form
  have hb2 : Below u12.heap.size u12 (w14.alloc (.cells #[.int .u8 x.ph, .int .i64 x.ba, .slice A14 x.ms.length c14, .string x.wi, .string x.va, .slice D14 x.ps.length q14, .slice C14 x.ac.length f14] 25)) := hb.alloc hb.size _
  have hbg : u12.heap.size ≤ w14.heap.size := hb.size
  have hpb : g12 < u12.heap.size := X12.out.lt
  have hlb0 : u11.heap.size ≤ u12.heap.size := BL.out.size
  replace X11 := Lib.hid (X11.out.below hb2 X11.out.lt)
  replace X12 := Lib.hid (X12.out.below hb2 X12.out.lt)
  replace O12 := Lib.hid (O12.out.below hb2)
  replace R12 := Lib.hid (R12.out.below hb2)
  replace BL := Lib.hid (bmore BL.out hb2 (Nat.le_refl _))
  replace BB := Lib.hid (bmore BB.out hb2 (Nat.le_refl _))
  have X14 := Lib.hid (Box.new w14 25 #[.int .u8 x.ph, .int .i64 x.ba, .slice A14 x.ms.length c14, .string x.wi, .string x.va, .slice D14 x.ps.length q14, .slice C14 x.ac.length f14])
  have O14 := Lib.hid (own.alloc (.cells #[.int .u8 x.ph, .int .i64 x.ba, .slice A14 x.ms.length c14, .string x.wi, .string x.va, .slice D14 x.ps.length q14, .slice C14 x.ac.length f14] 25))
  clear hb hb2 own
  go_upto_region 6 with (fail)
  generalize w14.alloc (.cells #[.int .u8 x.ph, .int .i64 x.ba, .slice A14 x.ms.length c14, .string x.wi, .string x.va, .slice D14 x.ps.length q14, .slice C14 x.ac.length f14] 25) = u14 at X11 X12 X14 O12 O14 R12 BB BL ⊢
  generalize w14.heap.size = g14 at X14 hbg ⊢
  obtain ⟨b14, hbt⟩ : ∃ z, z = u12.heap.size := ⟨_, rfl⟩
  have hlb : u11.heap.size ≤ b14 := by rw [hbt]; exact hlb0
  rw [← hbt] at hbg hpb O14
  clear hbt hlb0
  have P14 := Lib.hid (And.intro hpb (And.intro hlb hbg))
  clear hpb hlb hbg
  obtain ⟨⟨tx0, tx1, tx2, tx3, tx4, tx5, tx6⟩, _⟩ := X11.out.seven
  go_wp2_with fail
  clear tx0 tx1 tx2 tx3 tx4 tx5 tx6
  refine (CA.out _ _ (I11.out.below BL.out)).mono ?_
  rintro e w16 ⟨v, rfl, own, hb⟩
  obtain ⟨A16, c16, D16, q16, C16, f16, rfl⟩ := own.form
  have hb2 : Below u14.heap.size u14 (w16.alloc (.cells #[.int .u8 u.ph, .int .i64 u.ba, .slice A16 u.ms.length c16, .string u.wi, .string u.va, .slice D16 u.ps.length q16, .slice C16 u.ac.length f16] 25)) := hb.alloc hb.size _
  have hbg : u14.heap.size ≤ w16.heap.size := hb.size
  have hpb : g14 < u14.heap.size := X14.out.lt
  have hlb0 : u11.heap.size ≤ u14.heap.size := BL.out.size
  replace X11 := Lib.hid (X11.out.below hb2 X11.out.lt)
  replace X12 := Lib.hid (X12.out.below hb2 X12.out.lt)
  replace O12 := Lib.hid (O12.out.below hb2)
  replace R12 := Lib.hid (R12.out.below hb2)
  replace X14 := Lib.hid (X14.out.below hb2 X14.out.lt)
  replace O14 := Lib.hid (O14.out.below hb2)
  replace BL := Lib.hid (bmore BL.out hb2 (Nat.le_refl _))
  replace BB := Lib.hid (bmore BB.out hb2 (Nat.le_refl _))
  have X16 := Lib.hid (Box.new w16 25 #[.int .u8 u.ph, .int .i64 u.ba, .slice A16 u.ms.length c16, .string u.wi, .string u.va, .slice D16 u.ps.length q16, .slice C16 u.ac.length f16])
  have O16 := Lib.hid (own.alloc (.cells #[.int .u8 u.ph, .int .i64 u.ba, .slice A16 u.ms.length c16, .string u.wi, .string u.va, .slice D16 u.ps.length q16, .slice C16 u.ac.length f16] 25))
  have R16 := Lib.hid ((rowsOk_own own).below ((Below.refl w16.heap.size w16).alloc (Nat.le_refl _) (.cells #[.int .u8 u.ph, .int .i64 u.ba, .slice A16 u.ms.length c16, .string u.wi, .string u.va, .slice D16 u.ps.length q16, .slice C16 u.ac.length f16] 25)))
  clear hb hb2 own
  go_upto_region 7 with (fail)
  generalize w16.alloc (.cells #[.int .u8 u.ph, .int .i64 u.ba, .slice A16 u.ms.length c16, .string u.wi, .string u.va, .slice D16 u.ps.length q16, .slice C16 u.ac.length f16] 25) = u16 at X11 X12 X14 X16 O12 O14 O16 R12 R16 BB BL ⊢
  generalize w16.heap.size = g16 at X16 hbg R16 ⊢
  obtain ⟨b16, hbt⟩ : ∃ z, z = u14.heap.size := ⟨_, rfl⟩
  have hlb : u11.heap.size ≤ b16 := by rw [hbt]; exact hlb0
  rw [← hbt] at hbg hpb O16 R16
  clear hbt hlb0
  have P16 := Lib.hid (And.intro hpb (And.intro hlb hbg))
  clear hpb hlb hbg
  obtain ⟨⟨ta0, ta1, ta2, ta3, ta4, ta5, ta6⟩, _⟩ := (XA.out.below BB.out XA.out.lt).seven
  go_wp2_with fail
  clear ta0 ta1 ta2 ta3 ta4 ta5 ta6
  refine (CRA.out _ BB.out).mono ?_
  rintro e w18 ⟨v, rfl, own, hb⟩
  obtain ⟨A18, c18, D18, q18, C18, f18, rfl⟩ := own.form
  have hb2 : Below u16.heap.size u16 (w18.alloc (.cells #[.int .u8 u.ph, .int .i64 u.ba, .slice A18 u.ms.length c18, .string u.wi, .string u.va, .slice D18 u.ps.length q18, .slice C18 u.ac.length f18] 25)) := hb.alloc hb.size _
  have hbg : u16.heap.size ≤ w18.heap.size := hb.size
  have hpb : g16 < u16.heap.size := X16.out.lt
  have hlb0 : u11.heap.size ≤ u16.heap.size := BL.out.size
  replace X11 := Lib.hid (X11.out.below hb2 X11.out.lt)
  replace X12 := Lib.hid (X12.out.below hb2 X12.out.lt)
  replace O12 := Lib.hid (O12.out.below hb2)
  replace R12 := Lib.hid (R12.out.below hb2)
  replace X14 := Lib.hid (X14.out.below hb2 X14.out.lt)
  replace O14 := Lib.hid (O14.out.below hb2)
  replace X16 := Lib.hid (X16.out.below hb2 X16.out.lt)
  replace O16 := Lib.hid (O16.out.below hb2)
  replace R16 := Lib.hid (R16.out.below hb2)
  replace BL := Lib.hid (bmore BL.out hb2 (Nat.le_refl _))
  replace BB := Lib.hid (bmore BB.out hb2 (Nat.le_refl _))
  have X18 := Lib.hid (Box.new w18 25 #[.int .u8 u.ph, .int .i64 u.ba, .slice A18 u.ms.length c18, .string u.wi, .string u.va, .slice D18 u.ps.length q18, .slice C18 u.ac.length f18])
  have O18 := Lib.hid (own.alloc (.cells #[.int .u8 u.ph, .int .i64 u.ba, .slice A18 u.ms.length c18, .string u.wi, .string u.va, .slice D18 u.ps.length q18, .slice C18 u.ac.length f18] 25))
  clear hb hb2 own
  go_upto_region 8 with (fail)
  generalize w18.alloc (.cells #[.int .u8 u.ph, .int .i64 u.ba, .slice A18 u.ms.length c18, .string u.wi, .string u.va, .slice D18 u.ps.length q18, .slice C18 u.ac.length f18] 25) = u18 at X11 X12 X14 X16 X18 O12 O14 O16 O18 R12 R16 BB BL ⊢
  generalize w18.heap.size = g18 at X18 hbg ⊢
  obtain ⟨b18, hbt⟩ : ∃ z, z = u16.heap.size := ⟨_, rfl⟩
  have hlb : u11.heap.size ≤ b18 := by rw [hbt]; exact hlb0
  rw [← hbt] at hbg hpb O18
  clear hbt hlb0
  have P18 := Lib.hid (And.intro hpb (And.intro hlb hbg))
  clear hpb hlb hbg
  obtain ⟨⟨tx0, tx1, tx2, tx3, tx4, tx5, tx6⟩, _⟩ := X11.out.seven
  go_wp2_with fail
  clear tx0 tx1 tx2 tx3 tx4 tx5 tx6
  refine (CT.out _ _ (I11.out.below BL.out)).mono ?_
  rintro e w20 ⟨v, rfl, own, hb⟩
  replace own := own.own
  obtain ⟨A20, c20, D20, q20, C20, f20, rfl⟩ := own.form
  have hb2 : Below u18.heap.size u18 (w20.alloc (.cells #[.int .u8 a.ph, .int .i64 a.ba, .slice A20 a.ms.length c20, .string a.wi, .string a.va, .slice D20 a.ps.length q20, .slice C20 a.ac.length f20] 25)) := hb.alloc hb.size _
  have hbg : u18.heap.size ≤ w20.heap.size := hb.size
  have hpb : g18 < u18.heap.size := X18.out.lt
  have hlb0 : u11.heap.size ≤ u18.heap.size := BL.out.size
  replace X11 := Lib.hid (X11.out.below hb2 X11.out.lt)
  replace X12 := Lib.hid (X12.out.below hb2 X12.out.lt)
  replace O12 := Lib.hid (O12.out.below hb2)
  replace R12 := Lib.hid (R12.out.below hb2)
  replace X14 := Lib.hid (X14.out.below hb2 X14.out.lt)
  replace O14 := Lib.hid (O14.out.below hb2)
  replace X16 := Lib.hid (X16.out.below hb2 X16.out.lt)
  replace O16 := Lib.hid (O16.out.below hb2)
  replace R16 := Lib.hid (R16.out.below hb2)
  replace X18 := Lib.hid (X18.out.below hb2 X18.out.lt)
  replace O18 := Lib.hid (O18.out.below hb2)
  replace BL := Lib.hid (bmore BL.out hb2 (Nat.le_refl _))
  replace BB := Lib.hid (bmore BB.out hb2 (Nat.le_refl _))
  have X20 := Lib.hid (Box.new w20 25 #[.int .u8 a.ph, .int .i64 a.ba, .slice A20 a.ms.length c20, .string a.wi, .string a.va, .slice D20 a.ps.length q20, .slice C20 a.ac.length f20])
  have O20 := Lib.hid (own.alloc (.cells #[.int .u8 a.ph, .int .i64 a.ba, .slice A20 a.ms.length c20, .string a.wi, .string a.va, .slice D20 a.ps.length q20, .slice C20 a.ac.length f20] 25))
  have R20 := Lib.hid ((rowsOk_own own).below ((Below.refl w20.heap.size w20).alloc (Nat.le_refl _) (.cells #[.int .u8 a.ph, .int .i64 a.ba, .slice A20 a.ms.length c20, .string a.wi, .string a.va, .slice D20 a.ps.length q20, .slice C20 a.ac.length f20] 25)))
  clear hb hb2 own
  go_upto_region 9 with (fail)
  generalize w20.alloc (.cells #[.int .u8 a.ph, .int .i64 a.ba, .slice A20 a.ms.length c20, .string a.wi, .string a.va, .slice D20 a.ps.length q20, .slice C20 a.ac.length f20] 25) = u20 at X11 X12 X14 X16 X18 X20 O12 O14 O16 O18 O20 R12 R16 R20 BB BL ⊢
  generalize w20.heap.size = g20 at X20 hbg R20 ⊢
  obtain ⟨b20, hbt⟩ : ∃ z, z = u18.heap.size := ⟨_, rfl⟩
  have hlb : u11.heap.size ≤ b20 := by rw [hbt]; exact hlb0
  rw [← hbt] at hbg hpb O20 R20
  clear hbt hlb0
  have P20 := Lib.hid (And.intro hpb (And.intro hlb hbg))
  clear hpb hlb hbg
  go_cut [107] (fun u' wx => LateMid u20 false u' wx)
  case first =>
    have bb1 : Below u20.heap.size u20 u20.drew := (Below.refl _ _).drew
    obtain rfl | rfl : mb = true ∨ mb = false := by cases mb <;> simp
    all_goals
      obtain ⟨yy, hyy⟩ : ∃ yy, yy = y := ⟨_, rfl⟩
      have hy := HY.out
      simp only [if_true, Bool.false_eq_true, if_false] at hy
      subst hy
      clear hyy
      refine wp_region_held_drew (S := fun w' => Below u20.heap.size u20 w') (by kernel_rfl) bb1 (fun hHeld => ?_)
      refine wpAnyH_take (i := 0) (v := ?_) rfl (by kernel_rfl) (by kernel_rfl) (by kernel_rfl) (fun _ _ _ h => h) (Or.inl ⟨by rfl, ?_⟩) (by assumption) ?_
      rotate_left
      · intro w' hSw
        (try dsimp only at hSw)
        obtain ⟨⟨tx0, tx1, tx2, tx3, tx4, tx5, tx6⟩, _⟩ := (X12.out.below hSw X12.out.lt).seven
        go_simp
        all_goals (with_reducible rfl)
      try simp only [Act.put, List.setIfInBounds_toArray, List.set_cons_zero, List.set_cons_succ, List.getElem_toArray, List.getElem_cons_zero, List.getElem_cons_succ]
      refine wpAnyH_take (i := 1) (v := ?_) rfl (by kernel_rfl) (by kernel_rfl) (by kernel_rfl) (fun _ _ _ h => h) (Or.inl ⟨by rfl, ?_⟩) (by assumption) ?_
      rotate_left
      · intro w' hSw
        (try dsimp only at hSw)
        obtain ⟨⟨tx0, tx1, tx2, tx3, tx4, tx5, tx6⟩, _⟩ := (X14.out.below hSw X14.out.lt).seven
        go_simp
        all_goals (with_reducible rfl)
      try simp only [Act.put, List.setIfInBounds_toArray, List.set_cons_zero, List.set_cons_succ, List.getElem_toArray, List.getElem_cons_zero, List.getElem_cons_succ]
      refine wpAnyH_ready (rs := [2]) (by kernel_rfl) (by simp) ?_
      refine AllReadyH.cons rfl (fun K hK => ?_) AllReadyH.nil
      go_simp
      refine (CSX.out _ _ _ (O12.out.is.below bb1) (O14.out.is.below bb1)).mono ?_
      rintro e wz1 ⟨rfl, hx⟩
      have bb2 : Below u20.heap.size u20 wz1 := bmore bb1 hx (Nat.le_refl _)
      clear hx
      refine hK.out _ _ (bb2) (fun hHeld => ?_)
      clear hK
      try simp only [Act.put, List.setIfInBounds_toArray, List.set_cons_zero, List.set_cons_succ, List.getElem_toArray, List.getElem_cons_zero, List.getElem_cons_succ]
      refine wpAnyH_take (i := 3) (v := ?_) rfl (by kernel_rfl) (by kernel_rfl) (by kernel_rfl) (fun _ _ _ h => h) (Or.inl ⟨by rfl, ?_⟩) (by assumption) ?_
      rotate_left
      · intro w' hSw
        (try dsimp only at hSw)
        go_simp
        all_goals (with_reducible rfl)
      try simp only [Act.put, List.setIfInBounds_toArray, List.set_cons_zero, List.set_cons_succ, List.getElem_toArray, List.getElem_cons_zero, List.getElem_cons_succ]
      refine wpAnyH_take (i := 4) (v := ?_) rfl (by kernel_rfl) (by kernel_rfl) (by kernel_rfl) (fun _ _ _ h => h) (Or.inl ⟨by rfl, ?_⟩) (by assumption) ?_
      rotate_left
      · intro w' hSw
        (try dsimp only at hSw)
        go_simp
        all_goals (with_reducible rfl)
      try simp only [Act.put, List.setIfInBounds_toArray, List.set_cons_zero, List.set_cons_succ, List.getElem_toArray, List.getElem_cons_zero, List.getElem_cons_succ]
      refine wpAnyH_take (i := 5) (v := ?_) rfl (by kernel_rfl) (by kernel_rfl) (by kernel_rfl) (fun _ _ _ h => h) (Or.inl ⟨by rfl, ?_⟩) (by assumption) ?_
      rotate_left
      · intro w' hSw
        (try dsimp only at hSw)
        go_simp
        all_goals (with_reducible rfl)
      try simp only [Act.put, List.setIfInBounds_toArray, List.set_cons_zero, List.set_cons_succ, List.getElem_toArray, List.getElem_cons_zero, List.getElem_cons_succ]
      refine wpAnyH_take (i := 6) (v := ?_) rfl (by kernel_rfl) (by kernel_rfl) (by kernel_rfl) (fun _ _ _ h => h) (Or.inl ⟨by rfl, ?_⟩) (by assumption) ?_
      rotate_left
      · intro w' hSw
        (try dsimp only at hSw)
        go_simp
        all_goals (with_reducible rfl)
      try simp only [Act.put, List.setIfInBounds_toArray, List.set_cons_zero, List.set_cons_succ, List.getElem_toArray, List.getElem_cons_zero, List.getElem_cons_succ]
      refine wpAnyH_take (i := 7) (v := ?_) rfl (by kernel_rfl) (by kernel_rfl) (by kernel_rfl) (fun _ _ _ h => h) (Or.inl ⟨by rfl, ?_⟩) (by assumption) ?_
      rotate_left
      · intro w' hSw
        (try dsimp only at hSw)
        go_simp
        all_goals (with_reducible rfl)
      try simp only [Act.put, List.setIfInBounds_toArray, List.set_cons_zero, List.set_cons_succ, List.getElem_toArray, List.getElem_cons_zero, List.getElem_cons_succ]
      refine wpAnyH_take (i := 8) (v := ?_) rfl (by kernel_rfl) (by kernel_rfl) (by kernel_rfl) (fun _ _ _ h => h) (Or.inl ⟨by rfl, ?_⟩) (by assumption) ?_
      rotate_left
      · intro w' hSw
        (try dsimp only at hSw)
        go_simp
        all_goals (with_reducible rfl)
      try simp only [Act.put, List.setIfInBounds_toArray, List.set_cons_zero, List.set_cons_succ, List.getElem_toArray, List.getElem_cons_zero, List.getElem_cons_succ]
      refine wpAnyH_take (i := 9) (v := ?_) rfl (by kernel_rfl) (by kernel_rfl) (by kernel_rfl) (fun _ _ _ h => h) (Or.inl ⟨by rfl, ?_⟩) (by assumption) ?_
      rotate_left
      · intro w' hSw
        (try dsimp only at hSw)
        go_simp
        all_goals (with_reducible rfl)
      try simp only [Act.put, List.setIfInBounds_toArray, List.set_cons_zero, List.set_cons_succ, List.getElem_toArray, List.getElem_cons_zero, List.getElem_cons_succ]
      refine wpAnyH_take (i := 10) (v := ?_) rfl (by kernel_rfl) (by kernel_rfl) (by kernel_rfl) (fun _ _ _ h => h) (Or.inl ⟨by rfl, ?_⟩) (by assumption) ?_
      rotate_left
      · intro w' hSw
        (try dsimp only at hSw)
        obtain ⟨⟨tx0, tx1, tx2, tx3, tx4, tx5, tx6⟩, _⟩ := (X16.out.below hSw X16.out.lt).seven
        go_simp
        all_goals (with_reducible rfl)
      try simp only [Act.put, List.setIfInBounds_toArray, List.set_cons_zero, List.set_cons_succ, List.getElem_toArray, List.getElem_cons_zero, List.getElem_cons_succ]
      refine wpAnyH_take (i := 11) (v := ?_) rfl (by kernel_rfl) (by kernel_rfl) (by kernel_rfl) (fun _ _ _ h => h) (Or.inl ⟨by rfl, ?_⟩) (by assumption) ?_
      rotate_left
      · intro w' hSw
        (try dsimp only at hSw)
        obtain ⟨⟨tx0, tx1, tx2, tx3, tx4, tx5, tx6⟩, _⟩ := (X18.out.below hSw X18.out.lt).seven
        go_simp
        all_goals (with_reducible rfl)
      try simp only [Act.put, List.setIfInBounds_toArray, List.set_cons_zero, List.set_cons_succ, List.getElem_toArray, List.getElem_cons_zero, List.getElem_cons_succ]
      refine wpAnyH_ready (rs := [12]) (by kernel_rfl) (by simp) ?_
      refine AllReadyH.cons rfl (fun K hK => ?_) AllReadyH.nil
      go_simp
      refine (CSU.out _ _ _ (O16.out.is.below bb2) (O18.out.is.below bb2)).mono ?_
      rintro e wz2 ⟨rfl, hx⟩
      have bb3 : Below u20.heap.size u20 wz2 := bmore bb2 hx (Nat.le_refl _)
      clear hx
      refine hK.out _ _ (bb3) (fun hHeld => ?_)
      clear hK
      try simp only [Act.put, List.setIfInBounds_toArray, List.set_cons_zero, List.set_cons_succ, List.getElem_toArray, List.getElem_cons_zero, List.getElem_cons_succ]
      refine wpAnyH_take (i := 13) (v := ?_) rfl (by kernel_rfl) (by kernel_rfl) (by kernel_rfl) (fun _ _ _ h => h) (Or.inl ⟨by rfl, ?_⟩) (by assumption) ?_
      rotate_left
      · intro w' hSw
        (try dsimp only at hSw)
        go_simp
        all_goals (with_reducible rfl)
      try simp only [Act.put, List.setIfInBounds_toArray, List.set_cons_zero, List.set_cons_succ, List.getElem_toArray, List.getElem_cons_zero, List.getElem_cons_succ]
      refine wpAnyH_take (i := 14) (v := ?_) rfl (by kernel_rfl) (by kernel_rfl) (by kernel_rfl) (fun _ _ _ h => h) (Or.inl ⟨by rfl, ?_⟩) (by assumption) ?_
      rotate_left
      · intro w' hSw
        (try dsimp only at hSw)
        go_simp
        all_goals (with_reducible rfl)
      try simp only [Act.put, List.setIfInBounds_toArray, List.set_cons_zero, List.set_cons_succ, List.getElem_toArray, List.getElem_cons_zero, List.getElem_cons_succ]
      refine wpAnyH_take (i := 15) (v := ?_) rfl (by kernel_rfl) (by kernel_rfl) (by kernel_rfl) (fun _ _ _ h => h) (Or.inl ⟨by rfl, ?_⟩) (by assumption) ?_
      rotate_left
      · intro w' hSw
        (try dsimp only at hSw)
        go_simp
        all_goals (with_reducible rfl)
      try simp only [Act.put, List.setIfInBounds_toArray, List.set_cons_zero, List.set_cons_succ, List.getElem_toArray, List.getElem_cons_zero, List.getElem_cons_succ]
      refine wpAnyH_take (i := 16) (v := ?_) rfl (by kernel_rfl) (by kernel_rfl) (by kernel_rfl) (fun _ _ _ h => h) (Or.inl ⟨by rfl, ?_⟩) (by assumption) ?_
      rotate_left
      · intro w' hSw
        (try dsimp only at hSw)
        go_simp
        all_goals (with_reducible rfl)
      try simp only [Act.put, List.setIfInBounds_toArray, List.set_cons_zero, List.set_cons_succ, List.getElem_toArray, List.getElem_cons_zero, List.getElem_cons_succ]
      refine wpAnyH_take (i := 17) (v := ?_) rfl (by kernel_rfl) (by kernel_rfl) (by kernel_rfl) (fun _ _ _ h => h) (Or.inl ⟨by rfl, ?_⟩) (by assumption) ?_
      rotate_left
      · intro w' hSw
        (try dsimp only at hSw)
        go_simp
        all_goals (with_reducible rfl)
      try simp only [Act.put, List.setIfInBounds_toArray, List.set_cons_zero, List.set_cons_succ, List.getElem_toArray, List.getElem_cons_zero, List.getElem_cons_succ]
      refine wpAnyH_take (i := 18) (v := ?_) rfl (by kernel_rfl) (by kernel_rfl) (by kernel_rfl) (fun _ _ _ h => h) (Or.inl ⟨by rfl, ?_⟩) (by assumption) ?_
      rotate_left
      · intro w' hSw
        (try dsimp only at hSw)
        go_simp
        all_goals (with_reducible rfl)
      try simp only [Act.put, List.setIfInBounds_toArray, List.set_cons_zero, List.set_cons_succ, List.getElem_toArray, List.getElem_cons_zero, List.getElem_cons_succ]
      refine wpAnyH_take (i := 19) (v := ?_) rfl (by kernel_rfl) (by kernel_rfl) (by kernel_rfl) (fun _ _ _ h => h) (Or.inl ⟨by rfl, ?_⟩) (by assumption) ?_
      rotate_left
      · intro w' hSw
        (try dsimp only at hSw)
        go_simp
        all_goals (with_reducible rfl)
      try simp only [Act.put, List.setIfInBounds_toArray, List.set_cons_zero, List.set_cons_succ, List.getElem_toArray, List.getElem_cons_zero, List.getElem_cons_succ]
      refine wpAnyH_take (i := 20) (v := ?_) rfl (by kernel_rfl) (by kernel_rfl) (by kernel_rfl) (fun _ _ _ h => h) (Or.inl ⟨by rfl, ?_⟩) (by assumption) ?_
      rotate_left
      · intro w' hSw
        (try dsimp only at hSw)
        go_simp
        all_goals (with_reducible rfl)
      try simp only [Act.put, List.setIfInBounds_toArray, List.set_cons_zero, List.set_cons_succ, List.getElem_toArray, List.getElem_cons_zero, List.getElem_cons_succ]
      refine wpAnyH_take (i := 21) (v := ?_) rfl (by kernel_rfl) (by kernel_rfl) (by kernel_rfl) (fun _ _ _ h => h) (Or.inl ⟨by rfl, ?_⟩) (by assumption) ?_
      rotate_left
      · intro w' hSw
        (try dsimp only at hSw)
        obtain ⟨⟨tx0, tx1, tx2, tx3, tx4, tx5, tx6⟩, _⟩ := (X20.out.below hSw X20.out.lt).seven
        go_simp
        all_goals (with_reducible rfl)
      try simp only [Act.put, List.setIfInBounds_toArray, List.set_cons_zero, List.set_cons_succ, List.getElem_toArray, List.getElem_cons_zero, List.getElem_cons_succ]
      refine wpAnyH_take (i := 22) (v := ?_) rfl (by kernel_rfl) (by kernel_rfl) (by kernel_rfl) (fun _ _ _ h => h) (Or.inl ⟨by rfl, ?_⟩) (by assumption) ?_
      rotate_left
      · intro w' hSw
        (try dsimp only at hSw)
        obtain ⟨⟨tx0, tx1, tx2, tx3, tx4, tx5, tx6⟩, _⟩ := (XA.out.below (bmore BB.out hSw (Nat.le_refl _)) XA.out.lt).seven
        go_simp
        all_goals (with_reducible rfl)
      try simp only [Act.put, List.setIfInBounds_toArray, List.set_cons_zero, List.set_cons_succ, List.getElem_toArray, List.getElem_cons_zero, List.getElem_cons_succ]
      refine wpAnyH_ready (rs := [23]) (by kernel_rfl) (by simp) ?_
      refine AllReadyH.cons rfl (fun K hK => ?_) AllReadyH.nil
      go_simp
      refine (CSA.out _ _ _ (O20.out.is.below bb3) (HIS.out _ (bmore BB.out bb3 (Nat.le_refl _)))).mono ?_
      rintro e wz3 ⟨rfl, hx⟩
      have bb4 : Below u20.heap.size u20 wz3 := bmore bb3 hx (Nat.le_refl _)
      clear hx
      refine hK.out _ _ (bb4) (fun hHeld => ?_)
      clear hK
      try simp only [Act.put, List.setIfInBounds_toArray, List.set_cons_zero, List.set_cons_succ, List.getElem_toArray, List.getElem_cons_zero, List.getElem_cons_succ]
      refine wpAnyH_take (i := 24) (v := ?_) rfl (by kernel_rfl) (by kernel_rfl) (by kernel_rfl) (fun _ _ _ h => h) (Or.inl ⟨by rfl, ?_⟩) (by assumption) ?_
      rotate_left
      · intro w' hSw
        (try dsimp only at hSw)
        go_simp
        all_goals (with_reducible rfl)
      try simp only [Act.put, List.setIfInBounds_toArray, List.set_cons_zero, List.set_cons_succ, List.getElem_toArray, List.getElem_cons_zero, List.getElem_cons_succ]
      refine wpAnyH_take (i := 25) (v := ?_) rfl (by kernel_rfl) (by kernel_rfl) (by kernel_rfl) (fun _ _ _ h => h) (Or.inl ⟨by rfl, ?_⟩) (by assumption) ?_
      rotate_left
      · intro w' hSw
        (try dsimp only at hSw)
        go_simp
        all_goals (with_reducible rfl)
      try simp only [Act.put, List.setIfInBounds_toArray, List.set_cons_zero, List.set_cons_succ, List.getElem_toArray, List.getElem_cons_zero, List.getElem_cons_succ]
      refine wpAnyH_take (i := 26) (v := ?_) rfl (by kernel_rfl) (by kernel_rfl) (by kernel_rfl) (fun _ _ _ h => h) (Or.inl ⟨by rfl, ?_⟩) (by assumption) ?_
      rotate_left
      · intro w' hSw
        (try dsimp only at hSw)
        go_simp
        all_goals (with_reducible rfl)
      try simp only [Act.put, List.setIfInBounds_toArray, List.set_cons_zero, List.set_cons_succ, List.getElem_toArray, List.getElem_cons_zero, List.getElem_cons_succ]
      refine wpAnyH_take (i := 27) (v := ?_) rfl (by kernel_rfl) (by kernel_rfl) (by kernel_rfl) (fun _ _ _ h => h) (Or.inl ⟨by rfl, ?_⟩) (by assumption) ?_
      rotate_left
      · intro w' hSw
        (try dsimp only at hSw)
        obtain ⟨⟨tx0, tx1, tx2, tx3, tx4, tx5, tx6⟩, _⟩ := (X11.out.below hSw X11.out.lt).seven
        go_simp
        all_goals (with_reducible rfl)
      try simp only [Act.put, List.setIfInBounds_toArray, List.set_cons_zero, List.set_cons_succ, List.getElem_toArray, List.getElem_cons_zero, List.getElem_cons_succ]
      refine wpAnyH_take (i := 30) (v := ?_) rfl (by kernel_rfl) (by kernel_rfl) (by kernel_rfl) (fun _ _ _ h => h) (Or.inl ⟨by rfl, ?_⟩) (by assumption) ?_
      rotate_left
      · intro w' hSw
        (try dsimp only at hSw)
        obtain ⟨⟨tx0, tx1, tx2, tx3, tx4, tx5, tx6⟩, _⟩ := (XA.out.below (bmore BB.out hSw (Nat.le_refl _)) XA.out.lt).seven
        go_simp
        all_goals (with_reducible rfl)
      try simp only [Act.put, List.setIfInBounds_toArray, List.set_cons_zero, List.set_cons_succ, List.getElem_toArray, List.getElem_cons_zero, List.getElem_cons_succ]
      refine wpAnyH_ready (rs := [28]) (by kernel_rfl) (by simp) ?_
      refine AllReadyH.cons rfl (fun K hK => ?_) AllReadyH.nil
      go_simp
      refine (CCK.out _ _ (I11.out.below (bmore BL.out bb4 (Nat.le_refl _)))).mono ?_
      rintro e wz4 ⟨rfl, hx⟩
      have bb5 : Below u20.heap.size u20 wz4 := bmore bb4 hx (Nat.le_refl _)
      clear hx
      refine hK.out _ _ (bb5) (fun hHeld => ?_)
      clear hK
      try simp only [Act.put, List.setIfInBounds_toArray, List.set_cons_zero, List.set_cons_succ, List.getElem_toArray, List.getElem_cons_zero, List.getElem_cons_succ]
      refine wpAnyH_take (i := 29) (v := ?_) rfl (by kernel_rfl) (by kernel_rfl) (by kernel_rfl) (fun _ _ _ h => h) (Or.inl ⟨by rfl, ?_⟩) (by assumption) ?_
      rotate_left
      · intro w' hSw
        (try dsimp only at hSw)
        go_simp
        all_goals (with_reducible rfl)
      try simp only [Act.put, List.setIfInBounds_toArray, List.set_cons_zero, List.set_cons_succ, List.getElem_toArray, List.getElem_cons_zero, List.getElem_cons_succ]
      refine wpAnyH_ready (rs := [31]) (by kernel_rfl) (by simp) ?_
      refine AllReadyH.cons rfl (fun K hK => ?_) AllReadyH.nil
      go_simp
      refine (CMY.out _ (bmore BB.out bb5 (Nat.le_refl _))).mono ?_
      rintro e wz5 ⟨rfl, hx⟩
      have bb6 : Below u20.heap.size u20 wz5 := bmore bb5 hx (Nat.le_refl _)
      clear hx
      refine hK.out _ _ (bb6) (fun hHeld => ?_)
      clear hK
      try simp only [Act.put, List.setIfInBounds_toArray, List.set_cons_zero, List.set_cons_succ, List.getElem_toArray, List.getElem_cons_zero, List.getElem_cons_succ]
      refine wpAnyH_take (i := 32) (v := ?_) rfl (by kernel_rfl) (by kernel_rfl) (by kernel_rfl) (fun _ _ _ h => h) (Or.inl ⟨by rfl, ?_⟩) (by assumption) ?_
      rotate_left
      · intro w' hSw
        (try dsimp only at hSw)
        go_simp
        all_goals (with_reducible rfl)
      try simp only [Act.put, List.setIfInBounds_toArray, List.set_cons_zero, List.set_cons_succ, List.getElem_toArray, List.getElem_cons_zero, List.getElem_cons_succ]
      refine wpAnyH_take (i := 33) (v := ?_) rfl (by kernel_rfl) (by kernel_rfl) (by kernel_rfl) (fun _ _ _ h => h) (Or.inl ⟨by rfl, ?_⟩) (by assumption) ?_
      rotate_left
      · intro w' hSw
        (try dsimp only at hSw)
        go_simp
        all_goals (with_reducible rfl)
      try simp only [Act.put, List.setIfInBounds_toArray, List.set_cons_zero, List.set_cons_succ, List.getElem_toArray, List.getElem_cons_zero, List.getElem_cons_succ]
      refine wpAnyH_take (i := 34) (v := ?_) rfl (by kernel_rfl) (by kernel_rfl) (by kernel_rfl) (fun _ _ _ h => h) (Or.inl ⟨by rfl, ?_⟩) (by assumption) ?_
      rotate_left
      · intro w' hSw
        (try dsimp only at hSw)
        go_simp
        all_goals (with_reducible rfl)
      try simp only [Act.put, List.setIfInBounds_toArray, List.set_cons_zero, List.set_cons_succ, List.getElem_toArray, List.getElem_cons_zero, List.getElem_cons_succ]
      refine wpAnyH_take (i := 35) (v := ?_) rfl (by kernel_rfl) (by kernel_rfl) (by kernel_rfl) (fun _ _ _ h => h) (Or.inl ⟨by rfl, ?_⟩) (by assumption) ?_
      rotate_left
      · intro w' hSw
        (try dsimp only at hSw)
        obtain ⟨⟨tx0, tx1, tx2, tx3, tx4, tx5, tx6⟩, _⟩ := (X11.out.below hSw X11.out.lt).seven
        go_simp
        all_goals (with_reducible rfl)
      try simp only [Act.put, List.setIfInBounds_toArray, List.set_cons_zero, List.set_cons_succ, List.getElem_toArray, List.getElem_cons_zero, List.getElem_cons_succ]
      refine wpAnyH_take (i := 36) (v := ?_) rfl (by kernel_rfl) (by kernel_rfl) (by kernel_rfl) (fun _ _ _ h => h) (Or.inl ⟨by rfl, ?_⟩) (by assumption) ?_
      rotate_left
      · intro w' hSw
        (try dsimp only at hSw)
        obtain ⟨⟨tx0, tx1, tx2, tx3, tx4, tx5, tx6⟩, _⟩ := (XO.out.below (bmore BB.out hSw (Nat.le_refl _)) XO.out.lt).seven
        go_simp
        all_goals (with_reducible rfl)
      try simp only [Act.put, List.setIfInBounds_toArray, List.set_cons_zero, List.set_cons_succ, List.getElem_toArray, List.getElem_cons_zero, List.getElem_cons_succ]
      refine wpAnyH_take (i := 38) (v := ?_) rfl (by kernel_rfl) (by kernel_rfl) (by kernel_rfl) (fun _ _ _ h => h) (Or.inl ⟨by rfl, ?_⟩) (by assumption) ?_
      rotate_left
      · intro w' hSw
        (try dsimp only at hSw)
        obtain ⟨⟨tx0, tx1, tx2, tx3, tx4, tx5, tx6⟩, _⟩ := (XA.out.below (bmore BB.out hSw (Nat.le_refl _)) XA.out.lt).seven
        go_simp
        all_goals (with_reducible rfl)
      try simp only [Act.put, List.setIfInBounds_toArray, List.set_cons_zero, List.set_cons_succ, List.getElem_toArray, List.getElem_cons_zero, List.getElem_cons_succ]
      refine wpAnyH_take (i := 39) (v := ?_) rfl (by kernel_rfl) (by kernel_rfl) (by kernel_rfl) (fun _ _ _ h => h) (Or.inl ⟨by rfl, ?_⟩) (by assumption) ?_
      rotate_left
      · intro w' hSw
        (try dsimp only at hSw)
        obtain ⟨⟨tx0, tx1, tx2, tx3, tx4, tx5, tx6⟩, _⟩ := (XO.out.below (bmore BB.out hSw (Nat.le_refl _)) XO.out.lt).seven
        go_simp
        all_goals (with_reducible rfl)
      try simp only [Act.put, List.setIfInBounds_toArray, List.set_cons_zero, List.set_cons_succ, List.getElem_toArray, List.getElem_cons_zero, List.getElem_cons_succ]
      refine wpAnyH_ready (rs := [37]) (by kernel_rfl) (by simp) ?_
      refine AllReadyH.cons rfl (fun K hK => ?_) AllReadyH.nil
      go_simp
      refine (CS1.out _ _ (I11.out.below (bmore BL.out bb6 (Nat.le_refl _))) (bmore BB.out bb6 (Nat.le_refl _))).mono ?_
      rintro e wz6 ⟨rfl, hx⟩
      have bb7 : Below u20.heap.size u20 wz6 := bmore bb6 hx (Nat.le_refl _)
      clear hx
      refine hK.out _ _ (bb7) (fun hHeld => ?_)
      clear hK
      try simp only [Act.put, List.setIfInBounds_toArray, List.set_cons_zero, List.set_cons_succ, List.getElem_toArray, List.getElem_cons_zero, List.getElem_cons_succ]
      refine wpAnyH_ready (rs := [40]) (by kernel_rfl) (by simp) ?_
      refine AllReadyH.cons rfl (fun K hK => ?_) AllReadyH.nil
      go_simp
      refine (CS2.out _ (bmore BB.out bb7 (Nat.le_refl _))).mono ?_
      rintro e wz7 ⟨rfl, hx⟩
      have bb8 : Below u20.heap.size u20 wz7 := bmore bb7 hx (Nat.le_refl _)
      clear hx
      refine hK.out _ _ (bb8) (fun hHeld => ?_)
      clear hK
      try simp only [Act.put, List.setIfInBounds_toArray, List.set_cons_zero, List.set_cons_succ, List.getElem_toArray, List.getElem_cons_zero, List.getElem_cons_succ]
      refine wpAnyH_take (i := 41) (v := ?_) rfl (by kernel_rfl) (by kernel_rfl) (by kernel_rfl) (fun _ _ _ h => h) (Or.inl ⟨by rfl, ?_⟩) (by assumption) ?_
      rotate_left
      · intro w' hSw
        (try dsimp only at hSw)
        go_simp
        all_goals (with_reducible rfl)
      try simp only [Act.put, List.setIfInBounds_toArray, List.set_cons_zero, List.set_cons_succ, List.getElem_toArray, List.getElem_cons_zero, List.getElem_cons_succ]
      refine wpAnyH_take (i := 42) (v := ?_) rfl (by kernel_rfl) (by kernel_rfl) (by kernel_rfl) (fun _ _ _ h => h) (Or.inl ⟨by rfl, ?_⟩) (by assumption) ?_
      rotate_left
      · intro w' hSw
        (try dsimp only at hSw)
        go_simp
        all_goals (with_reducible rfl)
      try simp only [Act.put, List.setIfInBounds_toArray, List.set_cons_zero, List.set_cons_succ, List.getElem_toArray, List.getElem_cons_zero, List.getElem_cons_succ]
      refine wpAnyH_done (by kernel_rfl) ?_ _
      go_wp2_with fail
      go_meet
      case rel => exact ⟨rfl, bb8⟩
  case rest =>
    obtain ⟨rfl, hmb⟩ := hcut
    clear CSX CSU CCK CMY CS1 CS2 O12 O14 O16 O18 O20 X14 X18 HY
    replace BB := Lib.hid (bmore BB.out hmb (Nat.le_refl _))
    replace BL := Lib.hid (bmore BL.out hmb (Nat.le_refl _))
    replace X11 := Lib.hid (X11.out.below hmb X11.out.lt)
    replace X12 := Lib.hid (X12.out.below hmb X12.out.lt)
    replace X16 := Lib.hid (X16.out.below hmb X16.out.lt)
    replace X20 := Lib.hid (X20.out.below hmb X20.out.lt)
    replace R12 := Lib.hid (R12.out.below hmb)
    replace R16 := Lib.hid (R16.out.below hmb)
    replace R20 := Lib.hid (R20.out.below hmb)
    clear hmb
    have hle : W0.heap.size ≤ u11.heap.size := HLE.out
    obtain ⟨p1, p2, p3⟩ := P12.out
    obtain ⟨p4, p5, p6⟩ := P14.out
    obtain ⟨p7, p8, p9⟩ := P16.out
    obtain ⟨p10, p11, p12⟩ := P18.out
    obtain ⟨p13, p14, p15⟩ := P20.out
    have ORD := Lib.hid (show W0.heap.size ≤ u11.heap.size ∧ g11 < b12 ∧ u11.heap.size ≤ b12 ∧ b12 ≤ g12 ∧ g12 < b16 ∧ u11.heap.size ≤ b16 ∧ b16 ≤ g16 ∧ g16 < b20 ∧ u11.heap.size ≤ b20 ∧ b20 ≤ g20 ∧ g11 < b16 ∧ g11 < b20 ∧ g12 < b20 by omega)
    clear hle p1 p2 p3 p4 p5 p6 p7 p8 p9 p10 p11 p12 p13 p14 p15
    obtain ⟨⟨tx0, tx1, tx2, tx3, tx4, tx5, tx6⟩, _⟩ := X12.out.seven
    go_wp2_with fail
    clear tx0 tx1 tx2 tx3 tx4 tx5 tx6
    refine (turn_in b12 g12 _ _ _ _ _ _ _ _ _ _ _ _ _ _ R12.out (Nat.le_of_lt X12.out.lt) FX.out.ms FX.out.ps FX.out.ac).mono ?_
    rintro e wt12 ⟨rfl, hw⟩
    have ord := ORD.out
    replace BB := Lib.hid (below_within BB.out hw (by omega) (Nat.le_refl _))
    replace BL := Lib.hid (below_within BL.out hw (by omega) (Nat.le_refl _))
    replace X11 := Lib.hid (X11.out.within hw (.inl (by omega)))
    replace X16 := Lib.hid (X16.out.within hw (.inr (by omega)))
    replace R16 := Lib.hid (R16.out.within hw (by omega))
    replace X20 := Lib.hid (X20.out.within hw (.inr (by omega)))
    replace R20 := Lib.hid (R20.out.within hw (by omega))
    clear hw ord X12 R12
    obtain ⟨⟨tx0, tx1, tx2, tx3, tx4, tx5, tx6⟩, _⟩ := X16.out.seven
    go_wp2_with fail
    clear tx0 tx1 tx2 tx3 tx4 tx5 tx6
    refine (turn_in b16 g16 _ _ _ _ _ _ _ _ _ _ _ _ _ _ R16.out (Nat.le_of_lt X16.out.lt) FU.out.ms FU.out.ps FU.out.ac).mono ?_
    rintro e wt16 ⟨rfl, hw⟩
    have ord := ORD.out
    replace BB := Lib.hid (below_within BB.out hw (by omega) (Nat.le_refl _))
    replace BL := Lib.hid (below_within BL.out hw (by omega) (Nat.le_refl _))
    replace X11 := Lib.hid (X11.out.within hw (.inl (by omega)))
    replace X20 := Lib.hid (X20.out.within hw (.inr (by omega)))
    replace R20 := Lib.hid (R20.out.within hw (by omega))
    clear hw ord X16 R16
    obtain ⟨⟨tx0, tx1, tx2, tx3, tx4, tx5, tx6⟩, _⟩ := X20.out.seven
    go_wp2_with fail
    clear tx0 tx1 tx2 tx3 tx4 tx5 tx6
    refine (turn_in b20 g20 _ _ _ _ _ _ _ _ _ _ _ _ _ _ R20.out (Nat.le_of_lt X20.out.lt) FAA.out.ms FAA.out.ps FAA.out.ac).mono ?_
    rintro e wt20 ⟨rfl, hw⟩
    have ord := ORD.out
    replace BB := Lib.hid (below_within BB.out hw (by omega) (Nat.le_refl _))
    replace BL := Lib.hid (below_within BL.out hw (by omega) (Nat.le_refl _))
    replace X11 := Lib.hid (X11.out.within hw (.inl (by omega)))
    clear hw ord X20 R20
    obtain ⟨⟨tx0, tx1, tx2, tx3, tx4, tx5, tx6⟩, _⟩ := X11.out.seven
    obtain ⟨⟨ta0, ta1, ta2, ta3, ta4, ta5, ta6⟩, _⟩ := (XA.out.below BB.out XA.out.lt).seven
    go_wp2_with fail
    refine (CSA.out _ _ _ (I11.out.below BL.out) (HIS.out _ BB.out)).mono ?_
    rintro e ws ⟨rfl, hb⟩
    replace BB := Lib.hid (bmore BB.out hb (Nat.le_refl _))
    clear hb
    go_wp2_with fail
    go_ret
    exact ⟨rfl, bmore B0.out BB.out (Nat.le_refl _)⟩
end Go.Proofs.Ytmcfamoicdmkdaa
