/-
  The answers of package disk, the disk's slices written out: as the laws' walks meet them. Conditions: as each theorem says.
-/
import Derived.Test.YtkdnkaiknmcfmaaDiskH
import Derived.Test.YtkdnkaiknmcfmaaDiskE
namespace Go.Proofs.Ytkdnkaiknmcfmaa
open Go.RowKit
set_option linter.unusedVariables false

/-- an answer of a disk of b and ps, in memory of its own, and an error; the slices written out, n and m their lengths -/
def DAns (w : World) (b : List UInt8) (ps : List DM.Wr) (n m : Nat) (x : Int) (e : Ending) (w' : World) : Prop :=
  ∃ A c B d, e = .returned (.tuple #[.agg #[.slice A n c, .slice B m d], .int .i64 x]) ∧ DiskOwn w' w.heap.size 5 37 (.agg #[.slice A n c, .slice B m d]) b ps ∧ Below w.heap.size w w'
theorem dAns_of {w w' : World} {b : List UInt8} {ps : List DM.Wr} {n m : Nat} {x : Int} {e : Ending} (hn : b.length = n) (hm : ps.length = m) (h : DiskAns w b ps x e w') : DAns w b ps n m x e w' := by
  obtain ⟨v, rfl, ⟨x1, y1, l1, rfl, o1, o2, o3⟩, hb⟩ := h
  subst hn; subst hm
  obtain ⟨A1, c1, rfl, g1, g2⟩ := own_slice o1
  obtain ⟨B1, d1, rfl, g3, g4⟩ := own_slice2 o2
  exact ⟨A1, c1, B1, d1, rfl, ⟨_, _, l1, rfl, o1, o2, o3⟩, hb⟩
/-- an answer of bytes and an error -/
def BAns (w : World) (r : List UInt8) (n : Nat) (x : Int) (e : Ending) (w' : World) : Prop :=
  ∃ A c, e = .returned (.tuple #[.slice A n c, .int .i64 x]) ∧ w'.ownsRow w.heap.size 5 1 (.slice A n c) n (bc r) ∧ Below w.heap.size w w'
theorem bAns_of {w w' : World} {r : List UInt8} {n : Nat} {x : Int} {e : Ending} (hn : r.length = n) (h : ByAns w r x e w') : BAns w r n x e w' := by
  obtain ⟨v, rfl, o1, hb⟩ := h
  subst hn
  obtain ⟨A1, c1, rfl, g1, g2⟩ := own_slice o1
  exact ⟨A1, c1, rfl, o1, hb⟩
theorem see_s (v : Value) (b r : List UInt8) (ps : List DM.Wr) (n : Nat) (x : Int) (w : World) (HV : Hid (DiskIs w v b ps)) (HS : Hid (SeeIs b ps r x)) (hn : Hid (r.length = n)) : Calls Try.prog 38 #[v] w (BAns w r n x) :=
  (see_any v b r ps x w HV HS).mono fun _ _ h => bAns_of hn.out h
theorem sync_s (v : Value) (b r : List UInt8) (ps : List DM.Wr) (n : Nat) (x : Int) (w : World) (HV : Hid (DiskIs w v b ps)) (HS : Hid (SeeIs b ps r x)) (hn : Hid (r.length = n)) : Calls Try.prog 21 #[v] w (DAns w r [] n 0 x) :=
  (sync_any v b r ps x w HV HS).mono fun _ _ h => dAns_of hn.out rfl h
theorem crash_s (v : Value) (b r : List UInt8) (ps : List DM.Wr) (keep most x : Int) (n : Nat) (w : World) (HV : Hid (DiskIs w v b ps)) (HS : Hid (CrashIs b ps keep most r x))
    (hk1 : -9223372036854775808 ≤ keep) (hk2 : keep ≤ 9223372036854775807) (hm1 : -9223372036854775808 ≤ most) (hm2 : most ≤ 9223372036854775807) (hn : Hid (r.length = n)) :
    Calls Try.prog 9 #[v, .int .i64 keep, .int .i64 most] w (DAns w r [] n 0 x) :=
  (crash_any v b r ps keep most x w HV HS hk1 hk2 hm1 hm2).mono fun _ _ h => dAns_of hn.out rfl h
theorem append_s (v : Value) (Ap : Option Addr) (np cp : Nat) (b q b' : List UInt8) (ps ps' : List DM.Wr) (x : Int) (n m : Nat) (w : World) (HV : Hid (DiskIs w v b ps)) (HQ : Hid (Rd w Ap np (bc q))) (hnp : np ≤ cp) (HC : Hid (cp ≤ maxLen)) (HS : Hid (LenIs b ps (false, q) b' ps' x)) (hn : Hid (b'.length = n)) (hm : Hid (ps'.length = m)) :
    Calls Try.prog 41 #[v, .slice Ap np cp] w (DAns w b' ps' n m x) :=
  (append_any v Ap np cp b q b' ps ps' x w HV HQ hnp HC HS).mono fun _ _ h => dAns_of hn.out hm.out h
theorem swap_s (v : Value) (Ap : Option Addr) (np cp : Nat) (b q b' : List UInt8) (ps ps' : List DM.Wr) (x : Int) (n m : Nat) (w : World) (HV : Hid (DiskIs w v b ps)) (HQ : Hid (Rd w Ap np (bc q))) (hnp : np ≤ cp) (HC : Hid (cp ≤ maxLen)) (HS : Hid (LenIs b ps (true, q) b' ps' x)) (hn : Hid (b'.length = n)) (hm : Hid (ps'.length = m)) :
    Calls Try.prog 30 #[v, .slice Ap np cp] w (DAns w b' ps' n m x) :=
  (swap_any v Ap np cp b q b' ps ps' x w HV HQ hnp HC HS).mono fun _ _ h => dAns_of hn.out hm.out h
end Go.Proofs.Ytkdnkaiknmcfmaa
