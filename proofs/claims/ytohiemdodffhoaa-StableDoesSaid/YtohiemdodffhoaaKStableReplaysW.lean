/-
  The walk of StableReplays: it begins, records' texts make it, and its shortest records are as the document says; over contracts of the program's functions. Conditions: any number, texts, and one. Written by wip/tools/gen/st/replaysw.py.
-/
import Derived.Test.YtohiemdodffhoaaKStableBackW
import Derived.Test.YtohiemdodffhoaaStTw
import Derived.Test.YtohiemdodffhoaaK04
import Derived.Test.YtohiemdodffhoaaStMay
import Derived.Test.YtohiemdodffhoaaK01
namespace Go.Proofs.Ytohiemdodffhoaa.SP
open Go.RowKit
open SM (Sn Sb Vo)
set_option linter.unusedVariables false
set_option linter.unusedSimpArgs false

/-- a variable that holds one -/
structure SV (w : World) (g : Nat) (A : Option Addr) (c : Nat) (B : Option Addr) (d : Nat) (y : Sb) : Prop where
  bx : Box w g 25 #[.slice A y.logs.length c, .slice B y.votes.length d]
  st : StIs w (.agg #[.slice A y.logs.length c, .slice B y.votes.length d]) y
theorem SV.below {w w' : World} {g : Nat} {A : Option Addr} {c : Nat} {B : Option Addr} {d : Nat} {y : Sb} (h : SV w g A c B d y) (hb : Below w.heap.size w w') : SV w' g A c B d y := ⟨h.bx.below hb h.bx.lt, h.st.below hb⟩
theorem sv_new {w : World} {A : Option Addr} {c : Nat} {B : Option Addr} {d : Nat} {y : Sb} (h : StTy w (.agg #[.slice A y.logs.length c, .slice B y.votes.length d]) y) :
    SV (w.alloc (.cells #[.slice A y.logs.length c, .slice B y.votes.length d] 25)) w.heap.size A c B d y := ⟨Box.new _ _ _, (h.below ((Below.refl _ _).alloc (Nat.le_refl _) _)).is⟩
theorem rsame_self {u v : Value} {x : Sb} {w : World} (h1 : StIs w u x) (h2 : StIs w v x) :
    Calls Try.prog 25 #[u, v] w fun e w' => e = .returned (.bool true) ∧ Below w.heap.size w w' :=
  (rsame_any u v x x w h1 h2).mono fun e w' h => ⟨by rw [h.1]; simp, h.2⟩
theorem rtexts_self {A B : Option Addr} {ca cb : Nat} {l : List ByteArray} {w : World} (h1 : Rd w A l.length (tc l)) (h2 : Rd w B l.length (tc l)) (hm : l.length ≤ maxLen) :
    Calls Try.prog 18 #[.slice A l.length ca, .slice B l.length cb] w fun e w' => e = .returned (.bool true) ∧ Below w.heap.size w w' :=
  (rsametexts_any A B l.length l.length ca cb l l w h1 h2 hm hm).mono fun e w' h => ⟨by rw [h.1]; simp, by obtain ⟨q, rfl⟩ := h.2; exact below_drewN (Below.refl _ _) q⟩
theorem sc_tb (l : List ByteArray) : sc (tb l) = tc l := by
  unfold sc tb tc
  rw [List.map_map]
  refine List.map_congr_left fun v _ => ?_
  simp [RM.bsz]
theorem great_texts (A : Option Addr) (c : Nat) (l : List ByteArray) (w : World) (hr : Rd w A l.length (tc l)) (hs : ∀ v ∈ l, v.size ≤ maxLen) (hm : l.length ≤ maxLen) :
    Calls Try.prog 30 #[.slice A l.length c] w fun e w' => ∃ b : Bool, e = .returned (.bool b) ∧ Below w.heap.size w w' :=
  (tgreat_any A l.length c (tb l) w (by rw [sc_tb]; exact hr) (fun t ht => by
    obtain ⟨v, hv, rfl⟩ := List.mem_map.1 ht
    have := hs v hv
    unfold maxLen at this
    simpa [RM.bsz] using this) (by unfold maxLen at hm; omega)).mono fun e w' h => by
    obtain ⟨b, h1, rfl, _⟩ := h
    exact ⟨b, h1, Below.refl _ _⟩
/-- texts as an argument -/
def TxArg (w : World) (A : Option Addr) (n c : Nat) (l : List ByteArray) : Prop := l.length = n ∧ Rd w A n (tc l) ∧ n ≤ c ∧ c ≤ maxLen ∧ ∀ v ∈ l, v.size ≤ maxLen
theorem texts_of {w : World} {a : Option Addr} {len cap : Nat} {ss : List ByteArray} (h : IsTexts w a len cap ss) : TxArg w a len cap (ss.take len) := by
  rcases h with ⟨rfl, rfl, rfl, rfl⟩ | ⟨ad, rfl, hl, hm, hz, hcell, hws⟩
  · exact ⟨rfl, Rd.nil, Nat.le_refl _, Nat.zero_le _, fun v hv => by cases hv⟩
  · have hlt : (ss.take len).length = len := by rw [List.length_take]; omega
    refine ⟨hlt, ⟨by rw [tc_length, hlt], fun hn => ⟨ad, rfl, ?_, fun j u hu => ?_⟩⟩, hl, hm, fun s hs => hws s (List.mem_of_mem_take hs)⟩
    · have := cell_block (hcell 0 (by omega))
      rwa [block_of_add] at this
    · unfold tc at hu
      rw [List.getElem?_map, List.getElem?_take] at hu
      split at hu
      · rename_i hj
        have hjz : j < ss.length := by omega
        rw [hcell j hjz]
        rw [List.getElem?_eq_getElem hjz] at hu
        simp only [Option.map_some, Option.some.injEq] at hu
        rw [← hu]
        simp [hjz]
      · simp at hu
theorem few_many {x : Sb} (h : Few x) : Many x := ⟨by have := h.1; omega, fun l hl => by have := h.2.2 l hl; omega, by have := h.2.1; omega⟩
theorem StOwn.ty0 {w : World} {base : Nat} {v : Value} {x : Sb} (h : StOwn w base v x) : StTy w v x := h.ty
set_option maxRecDepth 100000 in
set_option maxHeartbeats 16000000 in
theorem stableReplays_of (NP : NewP) (RP : RepP) (IP : ImgP) (n : Int) (C : Option Addr) (m cc : Nat) (l : List ByteArray) (v : Value) (x : Sb) (w : World) (hl : TxArg w C m cc l) (hv : StArg w v x) :
    Calls Try.prog 5 #[.int .i64 n, .slice C m cc, v] w fun e w' => e = .returned (.bool true) ∧ Below w.heap.size w w' := by
  obtain ⟨⟨A, c, B, d, rfl, hL, hV⟩, F⟩ := hv
  obtain ⟨rfl, hrd, hlc, hcm, hsz⟩ := hl
  have hb0 : Below w.heap.size w (w.alloc (.cells #[.slice A x.logs.length c, .slice B x.votes.length d] 25)) := (Below.refl _ _).alloc (Nat.le_refl _) _
  have HB := Lib.hid hb0
  have X := Lib.hid (show SV (w.alloc (.cells #[.slice A x.logs.length c, .slice B x.votes.length d] 25)) w.heap.size A c B d x from ⟨Box.new _ _ _, A, c, B, d, rfl, hL.below hb0, hV.below hb0⟩)
  have HRL := Lib.hid (hrd.below hb0)
  have HSZ := Lib.hid hsz
  have HF := Lib.hid F
  have HLM := Lib.hid (Nat.le_trans hlc hcm)
  unfold maxLen at hcm
  clear hb0 hL hV F hrd hsz
  go_enter Try.func5, Try.ntmps5
  go_upto_region 1 with (fail)
  generalize w.alloc (.cells #[.slice A x.logs.length c, .slice B x.votes.length d] 25) = w1 at HB X HRL ⊢
  generalize hg0 : w.heap.size = g0 at X ⊢
  have HG := Lib.hid hg0
  clear hg0
  by_cases h150 : 150 < l.length
  · go_wp2_with fail
    go_ret
    exact ⟨rfl, by have := HB.out; rwa [HG.out] at this⟩
  go_wp2_with fail
  refine (great_texts C cc l w1 HRL.out HSZ.out HLM.out).mono ?_
  rintro e w2 ⟨gl, rfl, hb⟩
  replace HB := Lib.hid (bmore HB.out hb (Nat.le_refl _))
  replace X := Lib.hid (X.out.below hb)
  replace HRL := Lib.hid (HRL.out.below hb)
  clear hb
  rcases gl with _ | _
  rotate_left
  · go_wp2_with fail
    go_ret
    exact ⟨rfl, by have := HB.out; rwa [HG.out] at this⟩
  obtain ⟨b00, b01, _, _⟩ := X.out.bx.two
  go_wp2_with fail
  clear b00 b01
  refine (rgreat11_any _ x w2 X.out.st HF.out).mono ?_
  rintro e w3 ⟨gr, rfl, hfew, hb⟩
  replace HB := Lib.hid (bmore HB.out hb (Nat.le_refl _))
  replace X := Lib.hid (X.out.below hb)
  replace HRL := Lib.hid (HRL.out.below hb)
  clear hb
  rcases gr with _ | _
  rotate_left
  · go_wp2_with fail
    go_ret
    exact ⟨rfl, by have := HB.out; rwa [HG.out] at this⟩
  have HM := Lib.hid (few_many (hfew rfl))
  clear hfew
  go_wp2_with fail
  refine (NP n w3).mono ?_
  rintro e w4 ⟨v7, rfl, h7, hb⟩
  replace HB := Lib.hid (bmore HB.out hb (Nat.le_refl _))
  replace X := Lib.hid (X.out.below hb)
  replace HRL := Lib.hid (HRL.out.below hb)
  clear hb
  obtain ⟨q7, hq7⟩ : ∃ q7, q7 = SM.newF n := ⟨_, rfl⟩
  have HQ7 := Lib.hid hq7
  rw [← hq7] at h7 ⊢
  clear hq7
  obtain ⟨y7, e7⟩ := q7
  simp only at h7 ⊢
  obtain ⟨AV7, cV7, BV7, dV7, rfl⟩ := ty_slices h7
  have hb : Below w4.heap.size w4 (w4.alloc (.cells #[.slice AV7 y7.logs.length cV7, .slice BV7 y7.votes.length dV7] 25)) := (Below.refl _ _).alloc (Nat.le_refl _) _
  replace HB := Lib.hid (bmore HB.out hb (Nat.le_refl _))
  replace X := Lib.hid (X.out.below hb)
  replace HRL := Lib.hid (HRL.out.below hb)
  have V7 := Lib.hid (sv_new h7)
  clear hb h7
  go_upto_region 4 with (fail)
  generalize w4.alloc (.cells #[.slice AV7 y7.logs.length cV7, .slice BV7 y7.votes.length dV7] 25) = w5 at HB X HRL V7 ⊢
  generalize w4.heap.size = gV7 at V7 ⊢
  have RN := Lib.hid (rnew11_any n w5)
  rw [← HQ7.out] at RN
  simp only at RN
  go_wp2_with fail
  refine (RN.out).mono ?_
  rintro e w6 ⟨v9, rfl, h9, hb⟩
  replace HB := Lib.hid (bmore HB.out hb (Nat.le_refl _))
  replace X := Lib.hid (X.out.below hb)
  replace HRL := Lib.hid (HRL.out.below hb)
  replace V7 := Lib.hid (V7.out.below hb)
  clear hb
  obtain ⟨AV9, cV9, BV9, dV9, rfl⟩ := ty_slices h9
  have hb : Below w6.heap.size w6 (w6.alloc (.cells #[.slice AV9 y7.logs.length cV9, .slice BV9 y7.votes.length dV9] 25)) := (Below.refl _ _).alloc (Nat.le_refl _) _
  replace HB := Lib.hid (bmore HB.out hb (Nat.le_refl _))
  replace X := Lib.hid (X.out.below hb)
  replace HRL := Lib.hid (HRL.out.below hb)
  replace V7 := Lib.hid (V7.out.below hb)
  have V9 := Lib.hid (sv_new h9)
  clear hb h9
  go_upto_region 5 with (fail)
  generalize w6.alloc (.cells #[.slice AV9 y7.logs.length cV9, .slice BV9 y7.votes.length dV9] 25) = w7 at HB X HRL V7 V9 ⊢
  generalize w6.heap.size = gV9 at V9 ⊢
  clear RN HQ7
  go_wp2_with fail
  refine (RP n C l.length cc l w7 HRL.out HSZ.out HLM.out).mono ?_
  rintro e w8 ⟨v11, rfl, h11, hb⟩
  replace HB := Lib.hid (bmore HB.out hb (Nat.le_refl _))
  replace X := Lib.hid (X.out.below hb)
  replace HRL := Lib.hid (HRL.out.below hb)
  replace V7 := Lib.hid (V7.out.below hb)
  replace V9 := Lib.hid (V9.out.below hb)
  clear hb
  obtain ⟨q11, hq11⟩ : ∃ q11, q11 = SM.replayF n (tb l) := ⟨_, rfl⟩
  have HQ11 := Lib.hid hq11
  rw [← hq11] at h11 ⊢
  clear hq11
  obtain ⟨y11, e11⟩ := q11
  simp only at h11 ⊢
  obtain ⟨AV11, cV11, BV11, dV11, rfl⟩ := ty_slices h11
  have hb : Below w8.heap.size w8 (w8.alloc (.cells #[.slice AV11 y11.logs.length cV11, .slice BV11 y11.votes.length dV11] 25)) := (Below.refl _ _).alloc (Nat.le_refl _) _
  replace HB := Lib.hid (bmore HB.out hb (Nat.le_refl _))
  replace X := Lib.hid (X.out.below hb)
  replace HRL := Lib.hid (HRL.out.below hb)
  replace V7 := Lib.hid (V7.out.below hb)
  replace V9 := Lib.hid (V9.out.below hb)
  have V11 := Lib.hid (sv_new h11)
  clear hb h11
  go_upto_region 6 with (fail)
  generalize w8.alloc (.cells #[.slice AV11 y11.logs.length cV11, .slice BV11 y11.votes.length dV11] 25) = w9 at HB X HRL V7 V9 V11 ⊢
  generalize w8.heap.size = gV11 at V11 ⊢
  have RR := Lib.hid (rreplay_any (fun v x k g s b t W h F ht => rapply_any v x k g s b t W h F ht) n C l.length cc l w9 HRL.out HSZ.out HLM.out)
  unfold RpPost at RR
  rw [← HQ11.out] at RR
  simp only at RR
  go_wp2_with fail
  refine (RR.out).mono ?_
  rintro e w10 ⟨v13, rfl, h13, hb⟩
  replace HB := Lib.hid (bmore HB.out hb (Nat.le_refl _))
  replace X := Lib.hid (X.out.below hb)
  replace HRL := Lib.hid (HRL.out.below hb)
  replace V7 := Lib.hid (V7.out.below hb)
  replace V9 := Lib.hid (V9.out.below hb)
  replace V11 := Lib.hid (V11.out.below hb)
  clear hb
  obtain ⟨AV13, cV13, BV13, dV13, rfl⟩ := ty_slices h13
  have hb : Below w10.heap.size w10 (w10.alloc (.cells #[.slice AV13 y11.logs.length cV13, .slice BV13 y11.votes.length dV13] 25)) := (Below.refl _ _).alloc (Nat.le_refl _) _
  replace HB := Lib.hid (bmore HB.out hb (Nat.le_refl _))
  replace X := Lib.hid (X.out.below hb)
  replace HRL := Lib.hid (HRL.out.below hb)
  replace V7 := Lib.hid (V7.out.below hb)
  replace V9 := Lib.hid (V9.out.below hb)
  replace V11 := Lib.hid (V11.out.below hb)
  have V13 := Lib.hid (sv_new h13)
  clear hb h13
  go_upto_region 7 with (fail)
  generalize w10.alloc (.cells #[.slice AV13 y11.logs.length cV13, .slice BV13 y11.votes.length dV13] 25) = w11 at HB X HRL V7 V9 V11 V13 ⊢
  generalize w10.heap.size = gV13 at V13 ⊢
  clear RR HQ11
  obtain ⟨b00, b01, _, _⟩ := X.out.bx.two
  go_wp2_with fail
  clear b00 b01
  refine (rtwin_any _ x w11 X.out.st HM.out).mono ?_
  rintro e w12 ⟨v15, rfl, ho15, hb⟩
  replace HB := Lib.hid (bmore HB.out hb (Nat.le_refl _))
  replace X := Lib.hid (X.out.below hb)
  replace HRL := Lib.hid (HRL.out.below hb)
  replace V7 := Lib.hid (V7.out.below hb)
  replace V9 := Lib.hid (V9.out.below hb)
  replace V11 := Lib.hid (V11.out.below hb)
  replace V13 := Lib.hid (V13.out.below hb)
  clear hb
  have h15 := ho15.ty
  clear ho15
  obtain ⟨AV15, cV15, BV15, dV15, rfl⟩ := ty_slices h15
  have hb : Below w12.heap.size w12 (w12.alloc (.cells #[.slice AV15 x.logs.length cV15, .slice BV15 x.votes.length dV15] 25)) := (Below.refl _ _).alloc (Nat.le_refl _) _
  replace HB := Lib.hid (bmore HB.out hb (Nat.le_refl _))
  replace X := Lib.hid (X.out.below hb)
  replace HRL := Lib.hid (HRL.out.below hb)
  replace V7 := Lib.hid (V7.out.below hb)
  replace V9 := Lib.hid (V9.out.below hb)
  replace V11 := Lib.hid (V11.out.below hb)
  replace V13 := Lib.hid (V13.out.below hb)
  have V15 := Lib.hid (sv_new h15)
  clear hb h15
  go_upto_region 8 with (fail)
  generalize w12.alloc (.cells #[.slice AV15 x.logs.length cV15, .slice BV15 x.votes.length dV15] 25) = w13 at HB X HRL V7 V9 V11 V13 V15 ⊢
  generalize w12.heap.size = gV15 at V15 ⊢
  obtain ⟨b00, b01, _, _⟩ := V15.out.bx.two
  go_wp2_with fail
  clear b00 b01
  refine (IP _ x w13 V15.out.st HF.out).mono ?_
  rintro e w14 ⟨D16, c16, rfl, hr16, h161, h162, hb⟩
  replace HB := Lib.hid (bmore HB.out hb (Nat.le_refl _))
  replace X := Lib.hid (X.out.below hb)
  replace HRL := Lib.hid (HRL.out.below hb)
  replace V7 := Lib.hid (V7.out.below hb)
  replace V9 := Lib.hid (V9.out.below hb)
  replace V11 := Lib.hid (V11.out.below hb)
  replace V13 := Lib.hid (V13.out.below hb)
  replace V15 := Lib.hid (V15.out.below hb)
  clear hb
  have R16 := Lib.hid hr16
  clear hr16
  obtain ⟨ei, hei⟩ : ∃ ei : Int, ei = if SM.may x then 0 else 8 := ⟨_, rfl⟩
  have HEI := Lib.hid hei
  rw [← hei]
  clear hei
  obtain ⟨b00, b01, _, _⟩ := X.out.bx.two
  have RI := Lib.hid (rimage_any (fun v x W h F => rmay11_any v x W h F) _ x w14 X.out.st HF.out)
  rw [← HEI.out] at RI
  go_wp2_with fail
  clear b00 b01
  refine (RI.out).mono ?_
  rintro e w15 ⟨u18, rfl, ho18, hb⟩
  replace HB := Lib.hid (bmore HB.out hb (Nat.le_refl _))
  replace X := Lib.hid (X.out.below hb)
  replace HRL := Lib.hid (HRL.out.below hb)
  replace V7 := Lib.hid (V7.out.below hb)
  replace V9 := Lib.hid (V9.out.below hb)
  replace V11 := Lib.hid (V11.out.below hb)
  replace V13 := Lib.hid (V13.out.below hb)
  replace V15 := Lib.hid (V15.out.below hb)
  replace R16 := Lib.hid (R16.out.below hb)
  clear hb
  obtain ⟨D18, c18, rfl, h181, h182⟩ := own_form ho18
  have R18 := Lib.hid (Rd.of_own ho18)
  clear ho18 RI HEI
  have HIL := Lib.hid (Nat.le_trans h161 h162)
  have HIM := HIL.out
  unfold maxLen at HIM
  generalize imgOf x = li at R16 R18 HIL HIM ⊢
  obtain ⟨b00, b01, _, _⟩ := V7.out.bx.two
  obtain ⟨b10, b11, _, _⟩ := V9.out.bx.two
  go_wp2_with fail
  clear b00 b01
  clear b10 b11
  refine (rsame_self V7.out.st V9.out.st).mono ?_
  rintro e w16 ⟨rfl, hb⟩
  replace HB := Lib.hid (bmore HB.out hb (Nat.le_refl _))
  replace X := Lib.hid (X.out.below hb)
  replace HRL := Lib.hid (HRL.out.below hb)
  replace V7 := Lib.hid (V7.out.below hb)
  replace V9 := Lib.hid (V9.out.below hb)
  replace V11 := Lib.hid (V11.out.below hb)
  replace V13 := Lib.hid (V13.out.below hb)
  replace V15 := Lib.hid (V15.out.below hb)
  replace R16 := Lib.hid (R16.out.below hb)
  replace R18 := Lib.hid (R18.out.below hb)
  clear hb
  obtain ⟨b00, b01, _, _⟩ := V11.out.bx.two
  obtain ⟨b10, b11, _, _⟩ := V13.out.bx.two
  go_wp2_with fail
  clear b00 b01
  clear b10 b11
  refine (rsame_self V11.out.st V13.out.st).mono ?_
  rintro e w17 ⟨rfl, hb⟩
  replace HB := Lib.hid (bmore HB.out hb (Nat.le_refl _))
  replace X := Lib.hid (X.out.below hb)
  replace HRL := Lib.hid (HRL.out.below hb)
  replace V7 := Lib.hid (V7.out.below hb)
  replace V9 := Lib.hid (V9.out.below hb)
  replace V11 := Lib.hid (V11.out.below hb)
  replace V13 := Lib.hid (V13.out.below hb)
  replace V15 := Lib.hid (V15.out.below hb)
  replace R16 := Lib.hid (R16.out.below hb)
  replace R18 := Lib.hid (R18.out.below hb)
  clear hb
  go_wp2_with fail
  refine (rtexts_self R16.out R18.out HIL.out).mono ?_
  rintro e w18 ⟨rfl, hb⟩
  replace HB := Lib.hid (bmore HB.out hb (Nat.le_refl _))
  replace X := Lib.hid (X.out.below hb)
  replace HRL := Lib.hid (HRL.out.below hb)
  replace V7 := Lib.hid (V7.out.below hb)
  replace V9 := Lib.hid (V9.out.below hb)
  replace V11 := Lib.hid (V11.out.below hb)
  replace V13 := Lib.hid (V13.out.below hb)
  replace V15 := Lib.hid (V15.out.below hb)
  replace R16 := Lib.hid (R16.out.below hb)
  replace R18 := Lib.hid (R18.out.below hb)
  clear hb
  obtain ⟨b00, b01, _, _⟩ := V15.out.bx.two
  obtain ⟨b10, b11, _, _⟩ := X.out.bx.two
  go_wp2_with fail
  clear b00 b01
  clear b10 b11
  refine (rsame_self V15.out.st X.out.st).mono ?_
  rintro e w19 ⟨rfl, hb⟩
  replace HB := Lib.hid (bmore HB.out hb (Nat.le_refl _))
  replace X := Lib.hid (X.out.below hb)
  replace HRL := Lib.hid (HRL.out.below hb)
  replace V7 := Lib.hid (V7.out.below hb)
  replace V9 := Lib.hid (V9.out.below hb)
  replace V11 := Lib.hid (V11.out.below hb)
  replace V13 := Lib.hid (V13.out.below hb)
  replace V15 := Lib.hid (V15.out.below hb)
  replace R16 := Lib.hid (R16.out.below hb)
  replace R18 := Lib.hid (R18.out.below hb)
  clear hb
  go_wp2_with fail
  go_ret
  exact ⟨rfl, by have := HB.out; rwa [HG.out] at this⟩
end Go.Proofs.Ytohiemdodffhoaa.SP
