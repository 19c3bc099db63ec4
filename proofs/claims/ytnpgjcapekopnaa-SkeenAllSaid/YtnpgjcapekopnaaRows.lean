/-
  No cell of these rows narrows 'for every input' (looked for: loops, veiled, ifaces, maps, wideKeys, modest, calm, conditions, laid).
  DERIVED. THE GIVEN ROWS OF THIS SEAT. 3 by the template 'for every input the law returns true; each argument reads behind the call as it read before'; 0 by the template 'total and deterministic' (their statements: YtnpgjcapekopnaaTotals.lean).
  GIVEN WITH THE SEED: the statements are not yours to turn. If you find one false, say at which input.
  Laid BY PROGRAM, IN A SANDBOX (cutbox-rows.mjs): the forced cells as the released guide's own fill.sh prints them over the translation da96d17e9cf9f103… (all of the seat's roots in one cut). By AI agents, Wed Nov 11 2026. No macro, syntax, notation, axiom, sorry.
-/
import Derived.Test.YtnpgjcapekopnaaChecked
import GoSem.Claim
import GoSem.ClaimJoined
import GoSem.ClaimMapViews
import Derived.JoinedTies
import Derived.KernelRfl
namespace Go.Proofs.Ytnpgjcapekopnaa
/- THE CELL 'sum', in the pinned program and in every row, IS THE sha256 OF THE DUMP (.gsa) THAT YtnpgjcapekopnaaProg.lean LOADS. Nothing in Lean hashes anything: it is a label: what it is worth is what the hold of that sum in a sandbox is worth. -/
noncomputable def Try.pinned : Pinned := { name := "ytnpgjcapekopnaa", sum := "da96d17e9cf9f10386508817549d051a6e1d1f9d2db4e74e01e2572c95ffbe0a", checked := Try.checked }
namespace Rows
def none {H : Type} : Left H := { results := [], args := [] }

/-- 'towncrierlaw15.SkeenNames': WHATEVER THE INPUT: true; the input reads as it did. -/
def skeenNamesSpec : ChangeSpec := { name := "skeenNames", fn := fun _ => fun
  | [] => { results := [.lit (.bool true)], args := [] }
  | _ => none }
def skeenNamesRow : OpenClaim := { program := "ytnpgjcapekopnaa", sum := "da96d17e9cf9f10386508817549d051a6e1d1f9d2db4e74e01e2572c95ffbe0a", func := "towncrier/towncrierlaw15.SkeenNames", spec := "skeenNames", inPlace := ["slices.overlaps[towncrier/api.Wait]"], unfollowed := true, recurses := true, apart := false }
def SkeenNamesSaid : Prop := skeenNamesRow.holds Try.pinned (OpenSpec.ofChange skeenNamesSpec)

/-- ITS FALSE NEIGHBOUR: 'it returns false'. Refute it at one input. -/
def skeenNamesWrong : ChangeSpec := { name := "skeenNames", fn := fun _ => fun
  | [] => { results := [.lit (.bool false)], args := [] }
  | _ => none }
def SkeenNamesWrongFalsely : Prop := skeenNamesRow.holds Try.pinned (OpenSpec.ofChange skeenNamesWrong)

/-- 'towncrierlaw15.SkeenRises': WHATEVER THE INPUT: true; the input reads as it did. -/
def skeenRisesSpec : ChangeSpec := { name := "skeenRises", fn := fun _ => fun
  | [d1, d2, d3] => { results := [.lit (.bool true)], args := [d1, d2, d3] }
  | _ => none }
def skeenRisesRow : OpenClaim := { program := "ytnpgjcapekopnaa", sum := "da96d17e9cf9f10386508817549d051a6e1d1f9d2db4e74e01e2572c95ffbe0a", func := "towncrier/towncrierlaw15.SkeenRises", spec := "skeenRises", inPlace := ["slices.overlaps[towncrier/api.Wait]"], unfollowed := true, recurses := true, apart := false }
def SkeenRisesSaid : Prop := skeenRisesRow.holds Try.pinned (OpenSpec.ofChange skeenRisesSpec)

/-- ITS FALSE NEIGHBOUR: 'it returns false'. Refute it at one input. -/
def skeenRisesWrong : ChangeSpec := { name := "skeenRises", fn := fun _ => fun
  | [d1, d2, d3] => { results := [.lit (.bool false)], args := [d1, d2, d3] }
  | _ => none }
def SkeenRisesWrongFalsely : Prop := skeenRisesRow.holds Try.pinned (OpenSpec.ofChange skeenRisesWrong)

/-- 'towncrierlaw15.SkeenAll': WHATEVER THE INPUT: true; the input reads as it did. -/
def skeenAllSpec : ChangeSpec := { name := "skeenAll", fn := fun _ => fun
  | [d1, d2] => { results := [.lit (.bool true)], args := [d1, d2] }
  | _ => none }
def skeenAllRow : OpenClaim := { program := "ytnpgjcapekopnaa", sum := "da96d17e9cf9f10386508817549d051a6e1d1f9d2db4e74e01e2572c95ffbe0a", func := "towncrier/towncrierlaw15.SkeenAll", spec := "skeenAll", inPlace := ["slices.overlaps[towncrier/api.Wait]"], unfollowed := true, recurses := true, apart := false }
def SkeenAllSaid : Prop := skeenAllRow.holds Try.pinned (OpenSpec.ofChange skeenAllSpec)

/-- ITS FALSE NEIGHBOUR: 'it returns false'. Refute it at one input. -/
def skeenAllWrong : ChangeSpec := { name := "skeenAll", fn := fun _ => fun
  | [d1, d2] => { results := [.lit (.bool false)], args := [d1, d2] }
  | _ => none }
def SkeenAllWrongFalsely : Prop := skeenAllRow.holds Try.pinned (OpenSpec.ofChange skeenAllWrong)

/- THE SECOND FORM. 'bulk': how many values and letters a reading holds, each counted each time it is reached (what is shared counts as often as it is met; a slice's spare places count too). A statement '..UptoSaid' is the law's where the arguments, and the package variables that the reading takes, are together of bulk at most 1048576: NARROWER than '..Said'. Prove '..Said' where nothing that the law and all that it calls make is longer than what came in: it says more and counts as full. Else prove '..UptoSaid'. A law counts once. -/
mutual
def uptoBulk {H : Type} : DataW H → Nat
  | .lit (.string bytes) => bytes.length + 1
  | .lit _ => 1
  | .nil => 1
  | .ptr d => uptoBulk d + 1
  | .slice elems spare => uptoBulkAll elems + uptoBulkAll spare + 1
  | .agg parts => uptoBulkAll parts + 1
  | .iface _ d => uptoBulk d + 1
  | .map entries => uptoBulkEntries entries + 1
  | .held _ => 1
def uptoBulkAll {H : Type} : List (DataW H) → Nat
  | [] => 0
  | d :: r => uptoBulk d + uptoBulkAll r
def uptoBulkEntries {H : Type} : List (Lit × DataW H) → Nat
  | [] => 0
  | x :: r => uptoBulkEntry x + uptoBulkEntries r
def uptoBulkEntry {H : Type} : Lit × DataW H → Nat
  | (.string bytes, d) => bytes.length + uptoBulk d + 1
  | (_, d) => uptoBulk d + 1
 end
def uptoSmall : (H : Type) → List (DataW H) → Bool := fun _ ds => decide (uptoBulkAll ds ≤ 1048576)
def OpenSpec.upto (s : _root_.Go.ChangeSpec) : _root_.Go.OpenSpec := { _root_.Go.OpenSpec.ofChange s with cond := some uptoSmall }

/-- 'towncrierlaw15.SkeenNames', WHERE WHAT IT READS IS OF BULK AT MOST 1048576: true; the input reads as it did. -/
def skeenNamesUptoRow : OpenClaim := { program := "ytnpgjcapekopnaa", sum := "da96d17e9cf9f10386508817549d051a6e1d1f9d2db4e74e01e2572c95ffbe0a", func := "towncrier/towncrierlaw15.SkeenNames", spec := "skeenNames", inPlace := ["slices.overlaps[towncrier/api.Wait]"], unfollowed := true, recurses := true, apart := false, narrowed := true }
def SkeenNamesUptoSaid : Prop := skeenNamesUptoRow.holds Try.pinned (OpenSpec.upto skeenNamesSpec)

/-- 'towncrierlaw15.SkeenRises', WHERE WHAT IT READS IS OF BULK AT MOST 1048576: true; the input reads as it did. -/
def skeenRisesUptoRow : OpenClaim := { program := "ytnpgjcapekopnaa", sum := "da96d17e9cf9f10386508817549d051a6e1d1f9d2db4e74e01e2572c95ffbe0a", func := "towncrier/towncrierlaw15.SkeenRises", spec := "skeenRises", inPlace := ["slices.overlaps[towncrier/api.Wait]"], unfollowed := true, recurses := true, apart := false, narrowed := true }
def SkeenRisesUptoSaid : Prop := skeenRisesUptoRow.holds Try.pinned (OpenSpec.upto skeenRisesSpec)

/-- 'towncrierlaw15.SkeenAll', WHERE WHAT IT READS IS OF BULK AT MOST 1048576: true; the input reads as it did. -/
def skeenAllUptoRow : OpenClaim := { program := "ytnpgjcapekopnaa", sum := "da96d17e9cf9f10386508817549d051a6e1d1f9d2db4e74e01e2572c95ffbe0a", func := "towncrier/towncrierlaw15.SkeenAll", spec := "skeenAll", inPlace := ["slices.overlaps[towncrier/api.Wait]"], unfollowed := true, recurses := true, apart := false, narrowed := true }
def SkeenAllUptoSaid : Prop := skeenAllUptoRow.holds Try.pinned (OpenSpec.upto skeenAllSpec)

end Rows
end Go.Proofs.Ytnpgjcapekopnaa
