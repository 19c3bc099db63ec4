/-
  No cell of these rows narrows 'for every input' (looked for: loops, veiled, ifaces, maps, wideKeys, modest, calm, conditions, laid).
  DERIVED. THE GIVEN ROWS OF THIS SEAT. 6 by the template 'for every input the law returns true; each argument reads behind the call as it read before'; 0 by the template 'total and deterministic' (their statements: YtmcfamoicdmkdaaTotals.lean).
  GIVEN WITH THE SEED: the statements are not yours to turn. If you find one false, say at which input.
  Laid BY PROGRAM, IN A SANDBOX (cutbox-rows.mjs): the forced cells as the released guide's own fill.sh prints them over the translation 76af3e018cc154ba… (all of the seat's roots in one cut). By AI agents, Wed Nov 11 2026. No macro, syntax, notation, axiom, sorry.
-/
import Derived.Test.YtmcfamoicdmkdaaChecked
import GoSem.Claim
import GoSem.ClaimJoined
import GoSem.ClaimMapViews
import Derived.JoinedTies
import Derived.KernelRfl
namespace Go.Proofs.Ytmcfamoicdmkdaa
/- THE CELL 'sum', in the pinned program and in every row, IS THE sha256 OF THE DUMP (.gsa) THAT YtmcfamoicdmkdaaProg.lean LOADS. Nothing in Lean hashes anything: it is a label: what it is worth is what the hold of that sum in a sandbox is worth. -/
noncomputable def Try.pinned : Pinned := { name := "ytmcfamoicdmkdaa", sum := "76af3e018cc154ba7292a2b7fe59c6a1ba1381240de32b0801103c731e3a5ff1", checked := Try.checked }
namespace Rows
def none {H : Type} : Left H := { results := [], args := [] }

/-- 'towncrierlaw08.AttemptNames': WHATEVER THE INPUT: true; the input reads as it did. -/
def attemptNamesSpec : ChangeSpec := { name := "attemptNames", fn := fun _ => fun
  | [] => { results := [.lit (.bool true)], args := [] }
  | _ => none }
def attemptNamesRow : OpenClaim := { program := "ytmcfamoicdmkdaa", sum := "76af3e018cc154ba7292a2b7fe59c6a1ba1381240de32b0801103c731e3a5ff1", func := "towncrier/towncrierlaw08.AttemptNames", spec := "attemptNames", inPlace := ["slices.overlaps[towncrier/api.Promise]", "slices.overlaps[int]"], unfollowed := true, recurses := true, apart := false }
def AttemptNamesSaid : Prop := attemptNamesRow.holds Try.pinned (OpenSpec.ofChange attemptNamesSpec)

/-- ITS FALSE NEIGHBOUR: 'it returns false'. Refute it at one input. -/
def attemptNamesWrong : ChangeSpec := { name := "attemptNames", fn := fun _ => fun
  | [] => { results := [.lit (.bool false)], args := [] }
  | _ => none }
def AttemptNamesWrongFalsely : Prop := attemptNamesRow.holds Try.pinned (OpenSpec.ofChange attemptNamesWrong)

/-- 'towncrierlaw08.AttemptTakes': WHATEVER THE INPUT: true; the input reads as it did. -/
def attemptTakesSpec : ChangeSpec := { name := "attemptTakes", fn := fun _ => fun
  | [d1, d2, d3, d4, d5] => { results := [.lit (.bool true)], args := [d1, d2, d3, d4, d5] }
  | _ => none }
def attemptTakesRow : OpenClaim := { program := "ytmcfamoicdmkdaa", sum := "76af3e018cc154ba7292a2b7fe59c6a1ba1381240de32b0801103c731e3a5ff1", func := "towncrier/towncrierlaw08.AttemptTakes", spec := "attemptTakes", inPlace := ["slices.overlaps[towncrier/api.Promise]", "slices.overlaps[int]"], unfollowed := true, recurses := true, apart := false }
def AttemptTakesSaid : Prop := attemptTakesRow.holds Try.pinned (OpenSpec.ofChange attemptTakesSpec)

/-- ITS FALSE NEIGHBOUR: 'it returns false'. Refute it at one input. -/
def attemptTakesWrong : ChangeSpec := { name := "attemptTakes", fn := fun _ => fun
  | [d1, d2, d3, d4, d5] => { results := [.lit (.bool false)], args := [d1, d2, d3, d4, d5] }
  | _ => none }
def AttemptTakesWrongFalsely : Prop := attemptTakesRow.holds Try.pinned (OpenSpec.ofChange attemptTakesWrong)

/-- 'towncrierlaw08.AttemptBegins': WHATEVER THE INPUT: true; the input reads as it did. -/
def attemptBeginsSpec : ChangeSpec := { name := "attemptBegins", fn := fun _ => fun
  | [d1, d2, d3, d4] => { results := [.lit (.bool true)], args := [d1, d2, d3, d4] }
  | _ => none }
def attemptBeginsRow : OpenClaim := { program := "ytmcfamoicdmkdaa", sum := "76af3e018cc154ba7292a2b7fe59c6a1ba1381240de32b0801103c731e3a5ff1", func := "towncrier/towncrierlaw08.AttemptBegins", spec := "attemptBegins", apart := false }
def AttemptBeginsSaid : Prop := attemptBeginsRow.holds Try.pinned (OpenSpec.ofChange attemptBeginsSpec)

/-- ITS FALSE NEIGHBOUR: 'it returns false'. Refute it at one input. -/
def attemptBeginsWrong : ChangeSpec := { name := "attemptBegins", fn := fun _ => fun
  | [d1, d2, d3, d4] => { results := [.lit (.bool false)], args := [d1, d2, d3, d4] }
  | _ => none }
def AttemptBeginsWrongFalsely : Prop := attemptBeginsRow.holds Try.pinned (OpenSpec.ofChange attemptBeginsWrong)

/-- 'towncrierlaw08.AttemptTells': WHATEVER THE INPUT: true; the input reads as it did. -/
def attemptTellsSpec : ChangeSpec := { name := "attemptTells", fn := fun _ => fun
  | [d1, d2, d3, d4] => { results := [.lit (.bool true)], args := [d1, d2, d3, d4] }
  | _ => none }
def attemptTellsRow : OpenClaim := { program := "ytmcfamoicdmkdaa", sum := "76af3e018cc154ba7292a2b7fe59c6a1ba1381240de32b0801103c731e3a5ff1", func := "towncrier/towncrierlaw08.AttemptTells", spec := "attemptTells", inPlace := ["slices.overlaps[towncrier/api.Promise]"], unfollowed := true, recurses := true, apart := false }
def AttemptTellsSaid : Prop := attemptTellsRow.holds Try.pinned (OpenSpec.ofChange attemptTellsSpec)

/-- ITS FALSE NEIGHBOUR: 'it returns false'. Refute it at one input. -/
def attemptTellsWrong : ChangeSpec := { name := "attemptTells", fn := fun _ => fun
  | [d1, d2, d3, d4] => { results := [.lit (.bool false)], args := [d1, d2, d3, d4] }
  | _ => none }
def AttemptTellsWrongFalsely : Prop := attemptTellsRow.holds Try.pinned (OpenSpec.ofChange attemptTellsWrong)

/-- 'towncrierlaw08.AttemptChosen': WHATEVER THE INPUT: true; the input reads as it did. -/
def attemptChosenSpec : ChangeSpec := { name := "attemptChosen", fn := fun _ => fun
  | [d1, d2, d3] => { results := [.lit (.bool true)], args := [d1, d2, d3] }
  | _ => none }
def attemptChosenRow : OpenClaim := { program := "ytmcfamoicdmkdaa", sum := "76af3e018cc154ba7292a2b7fe59c6a1ba1381240de32b0801103c731e3a5ff1", func := "towncrier/towncrierlaw08.AttemptChosen", spec := "attemptChosen", inPlace := ["slices.overlaps[towncrier/api.Promise]", "slices.overlaps[int]"], unfollowed := true, recurses := true, apart := false }
def AttemptChosenSaid : Prop := attemptChosenRow.holds Try.pinned (OpenSpec.ofChange attemptChosenSpec)

/-- ITS FALSE NEIGHBOUR: 'it returns false'. Refute it at one input. -/
def attemptChosenWrong : ChangeSpec := { name := "attemptChosen", fn := fun _ => fun
  | [d1, d2, d3] => { results := [.lit (.bool false)], args := [d1, d2, d3] }
  | _ => none }
def AttemptChosenWrongFalsely : Prop := attemptChosenRow.holds Try.pinned (OpenSpec.ofChange attemptChosenWrong)

/-- 'towncrierlaw08.AttemptOrder': WHATEVER THE INPUT: true; the input reads as it did. -/
def attemptOrderSpec : ChangeSpec := { name := "attemptOrder", fn := fun _ => fun
  | [d1, d2, d3, d4, d5, d6] => { results := [.lit (.bool true)], args := [d1, d2, d3, d4, d5, d6] }
  | _ => none }
def attemptOrderRow : OpenClaim := { program := "ytmcfamoicdmkdaa", sum := "76af3e018cc154ba7292a2b7fe59c6a1ba1381240de32b0801103c731e3a5ff1", func := "towncrier/towncrierlaw08.AttemptOrder", spec := "attemptOrder", inPlace := ["slices.overlaps[towncrier/api.Promise]", "slices.overlaps[int]"], unfollowed := true, recurses := true, apart := false }
def AttemptOrderSaid : Prop := attemptOrderRow.holds Try.pinned (OpenSpec.ofChange attemptOrderSpec)

/-- ITS FALSE NEIGHBOUR: 'it returns false'. Refute it at one input. -/
def attemptOrderWrong : ChangeSpec := { name := "attemptOrder", fn := fun _ => fun
  | [d1, d2, d3, d4, d5, d6] => { results := [.lit (.bool false)], args := [d1, d2, d3, d4, d5, d6] }
  | _ => none }
def AttemptOrderWrongFalsely : Prop := attemptOrderRow.holds Try.pinned (OpenSpec.ofChange attemptOrderWrong)

/- THE SECOND FORM. 'bulk': how many values and letters a reading holds, each counted each time it is reached (what is shared counts as often as it is met; a slice's spare places count too). A statement '..UptoSaid' is the law's where the arguments, and the package variables that the reading takes, are together of bulk at most 1048576: NARROWER than '..Said'. Prove '..Said' where nothing that the law and all that it calls make is longer than what came in: it says more and counts as full. Else prove '..UptoSaid'. A law counts once. -/
mutual
def uptoBulk {H : Type} : DataW H → Nat
  | .lit (.string bytes) => bytes.length + 1
  | .lit _ => 1
  | .nil => 1
  | .ptr d => uptoBulk d + 1
  | .slice elems spare => uptoBulkAll elems + uptoBulkAll spare + 1
  | .agg parts => uptoBulkAll parts + 1
  | .iface _ d => uptoBulk d + 1
  | .map entries => uptoBulkEntries entries + 1
  | .held _ => 1
def uptoBulkAll {H : Type} : List (DataW H) → Nat
  | [] => 0
  | d :: r => uptoBulk d + uptoBulkAll r
def uptoBulkEntries {H : Type} : List (Lit × DataW H) → Nat
  | [] => 0
  | x :: r => uptoBulkEntry x + uptoBulkEntries r
def uptoBulkEntry {H : Type} : Lit × DataW H → Nat
  | (.string bytes, d) => bytes.length + uptoBulk d + 1
  | (_, d) => uptoBulk d + 1
 end
def uptoSmall : (H : Type) → List (DataW H) → Bool := fun _ ds => decide (uptoBulkAll ds ≤ 1048576)
def OpenSpec.upto (s : _root_.Go.ChangeSpec) : _root_.Go.OpenSpec := { _root_.Go.OpenSpec.ofChange s with cond := some uptoSmall }

/-- 'towncrierlaw08.AttemptNames', WHERE WHAT IT READS IS OF BULK AT MOST 1048576: true; the input reads as it did. -/
def attemptNamesUptoRow : OpenClaim := { program := "ytmcfamoicdmkdaa", sum := "76af3e018cc154ba7292a2b7fe59c6a1ba1381240de32b0801103c731e3a5ff1", func := "towncrier/towncrierlaw08.AttemptNames", spec := "attemptNames", inPlace := ["slices.overlaps[towncrier/api.Promise]", "slices.overlaps[int]"], unfollowed := true, recurses := true, apart := false, narrowed := true }
def AttemptNamesUptoSaid : Prop := attemptNamesUptoRow.holds Try.pinned (OpenSpec.upto attemptNamesSpec)

/-- 'towncrierlaw08.AttemptTakes', WHERE WHAT IT READS IS OF BULK AT MOST 1048576: true; the input reads as it did. -/
def attemptTakesUptoRow : OpenClaim := { program := "ytmcfamoicdmkdaa", sum := "76af3e018cc154ba7292a2b7fe59c6a1ba1381240de32b0801103c731e3a5ff1", func := "towncrier/towncrierlaw08.AttemptTakes", spec := "attemptTakes", inPlace := ["slices.overlaps[towncrier/api.Promise]", "slices.overlaps[int]"], unfollowed := true, recurses := true, apart := false, narrowed := true }
def AttemptTakesUptoSaid : Prop := attemptTakesUptoRow.holds Try.pinned (OpenSpec.upto attemptTakesSpec)

/-- 'towncrierlaw08.AttemptBegins', WHERE WHAT IT READS IS OF BULK AT MOST 1048576: true; the input reads as it did. -/
def attemptBeginsUptoRow : OpenClaim := { program := "ytmcfamoicdmkdaa", sum := "76af3e018cc154ba7292a2b7fe59c6a1ba1381240de32b0801103c731e3a5ff1", func := "towncrier/towncrierlaw08.AttemptBegins", spec := "attemptBegins", apart := false, narrowed := true }
def AttemptBeginsUptoSaid : Prop := attemptBeginsUptoRow.holds Try.pinned (OpenSpec.upto attemptBeginsSpec)

/-- 'towncrierlaw08.AttemptTells', WHERE WHAT IT READS IS OF BULK AT MOST 1048576: true; the input reads as it did. -/
def attemptTellsUptoRow : OpenClaim := { program := "ytmcfamoicdmkdaa", sum := "76af3e018cc154ba7292a2b7fe59c6a1ba1381240de32b0801103c731e3a5ff1", func := "towncrier/towncrierlaw08.AttemptTells", spec := "attemptTells", inPlace := ["slices.overlaps[towncrier/api.Promise]"], unfollowed := true, recurses := true, apart := false, narrowed := true }
def AttemptTellsUptoSaid : Prop := attemptTellsUptoRow.holds Try.pinned (OpenSpec.upto attemptTellsSpec)

/-- 'towncrierlaw08.AttemptChosen', WHERE WHAT IT READS IS OF BULK AT MOST 1048576: true; the input reads as it did. -/
def attemptChosenUptoRow : OpenClaim := { program := "ytmcfamoicdmkdaa", sum := "76af3e018cc154ba7292a2b7fe59c6a1ba1381240de32b0801103c731e3a5ff1", func := "towncrier/towncrierlaw08.AttemptChosen", spec := "attemptChosen", inPlace := ["slices.overlaps[towncrier/api.Promise]", "slices.overlaps[int]"], unfollowed := true, recurses := true, apart := false, narrowed := true }
def AttemptChosenUptoSaid : Prop := attemptChosenUptoRow.holds Try.pinned (OpenSpec.upto attemptChosenSpec)

/-- 'towncrierlaw08.AttemptOrder', WHERE WHAT IT READS IS OF BULK AT MOST 1048576: true; the input reads as it did. -/
def attemptOrderUptoRow : OpenClaim := { program := "ytmcfamoicdmkdaa", sum := "76af3e018cc154ba7292a2b7fe59c6a1ba1381240de32b0801103c731e3a5ff1", func := "towncrier/towncrierlaw08.AttemptOrder", spec := "attemptOrder", inPlace := ["slices.overlaps[towncrier/api.Promise]", "slices.overlaps[int]"], unfollowed := true, recurses := true, apart := false, narrowed := true }
def AttemptOrderUptoSaid : Prop := attemptOrderUptoRow.holds Try.pinned (OpenSpec.upto attemptOrderSpec)

end Rows
end Go.Proofs.Ytmcfamoicdmkdaa
