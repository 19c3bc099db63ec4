/-
  No cell of these rows narrows 'for every input' (looked for: loops, veiled, ifaces, maps, wideKeys, modest, calm, conditions, laid).
  DERIVED. THE GIVEN ROWS OF THIS SEAT. 6 by the template 'for every input the law returns true; each argument reads behind the call as it read before'; 0 by the template 'total and deterministic' (their statements: YtohiemdodffhoaaTotals.lean).
  GIVEN WITH THE SEED: the statements are not yours to turn. If you find one false, say at which input.
  Laid BY PROGRAM, IN A SANDBOX (cutbox-rows.mjs): the forced cells as the released guide's own fill.sh prints them over the translation 05dcbde72bf9ec98… (all of the seat's roots in one cut). By AI agents, Wed Nov 11 2026. No macro, syntax, notation, axiom, sorry.
-/
import Derived.Test.YtohiemdodffhoaaChecked
import GoSem.Claim
import GoSem.ClaimJoined
import GoSem.ClaimMapViews
import Derived.JoinedTies
import Derived.KernelRfl
namespace Go.Proofs.Ytohiemdodffhoaa
/- THE CELL 'sum', in the pinned program and in every row, IS THE sha256 OF THE DUMP (.gsa) THAT YtohiemdodffhoaaProg.lean LOADS. Nothing in Lean hashes anything: it is a label: what it is worth is what the hold of that sum in a sandbox is worth. -/
noncomputable def Try.pinned : Pinned := { name := "ytohiemdodffhoaa", sum := "05dcbde72bf9ec98f5052f41e5b848ca7c9fb41e4c72f648798cd2963a171b01", checked := Try.checked }
namespace Rows
def none {H : Type} : Left H := { results := [], args := [] }

/-- 'towncrierlaw11.StableNames': WHATEVER THE INPUT: true; the input reads as it did. -/
def stableNamesSpec : ChangeSpec := { name := "stableNames", fn := fun _ => fun
  | [] => { results := [.lit (.bool true)], args := [] }
  | _ => none }
def stableNamesRow : OpenClaim := { program := "ytohiemdodffhoaa", sum := "05dcbde72bf9ec98f5052f41e5b848ca7c9fb41e4c72f648798cd2963a171b01", func := "towncrier/towncrierlaw11.StableNames", spec := "stableNames", inPlace := ["slices.overlaps[towncrier/api.Seen]"], unfollowed := true, recurses := true, apart := false }
def StableNamesSaid : Prop := stableNamesRow.holds Try.pinned (OpenSpec.ofChange stableNamesSpec)

/-- ITS FALSE NEIGHBOUR: 'it returns false'. Refute it at one input. -/
def stableNamesWrong : ChangeSpec := { name := "stableNames", fn := fun _ => fun
  | [] => { results := [.lit (.bool false)], args := [] }
  | _ => none }
def StableNamesWrongFalsely : Prop := stableNamesRow.holds Try.pinned (OpenSpec.ofChange stableNamesWrong)

/-- 'towncrierlaw11.StableDoes': WHATEVER THE INPUT: true; the input reads as it did. -/
def stableDoesSpec : ChangeSpec := { name := "stableDoes", fn := fun _ => fun
  | [d1, d2, d3, d4, d5] => { results := [.lit (.bool true)], args := [d1, d2, d3, d4, d5] }
  | _ => none }
def stableDoesRow : OpenClaim := { program := "ytohiemdodffhoaa", sum := "05dcbde72bf9ec98f5052f41e5b848ca7c9fb41e4c72f648798cd2963a171b01", func := "towncrier/towncrierlaw11.StableDoes", spec := "stableDoes", inPlace := ["slices.overlaps[towncrier/api.Seen]"], unfollowed := true, recurses := true, apart := false }
def StableDoesSaid : Prop := stableDoesRow.holds Try.pinned (OpenSpec.ofChange stableDoesSpec)

/-- ITS FALSE NEIGHBOUR: 'it returns false'. Refute it at one input. -/
def stableDoesWrong : ChangeSpec := { name := "stableDoes", fn := fun _ => fun
  | [d1, d2, d3, d4, d5] => { results := [.lit (.bool false)], args := [d1, d2, d3, d4, d5] }
  | _ => none }
def StableDoesWrongFalsely : Prop := stableDoesRow.holds Try.pinned (OpenSpec.ofChange stableDoesWrong)

/-- 'towncrierlaw11.StableReplays': WHATEVER THE INPUT: true; the input reads as it did. -/
def stableReplaysSpec : ChangeSpec := { name := "stableReplays", fn := fun _ => fun
  | [d1, d2, d3] => { results := [.lit (.bool true)], args := [d1, d2, d3] }
  | _ => none }
def stableReplaysRow : OpenClaim := { program := "ytohiemdodffhoaa", sum := "05dcbde72bf9ec98f5052f41e5b848ca7c9fb41e4c72f648798cd2963a171b01", func := "towncrier/towncrierlaw11.StableReplays", spec := "stableReplays", inPlace := ["slices.overlaps[towncrier/api.Seen]"], unfollowed := true, recurses := true, apart := false }
def StableReplaysSaid : Prop := stableReplaysRow.holds Try.pinned (OpenSpec.ofChange stableReplaysSpec)

/-- ITS FALSE NEIGHBOUR: 'it returns false'. Refute it at one input. -/
def stableReplaysWrong : ChangeSpec := { name := "stableReplays", fn := fun _ => fun
  | [d1, d2, d3] => { results := [.lit (.bool false)], args := [d1, d2, d3] }
  | _ => none }
def StableReplaysWrongFalsely : Prop := stableReplaysRow.holds Try.pinned (OpenSpec.ofChange stableReplaysWrong)

/-- 'towncrierlaw11.StableBack': WHATEVER THE INPUT: true; the input reads as it did. -/
def stableBackSpec : ChangeSpec := { name := "stableBack", fn := fun _ => fun
  | [d] => { results := [.lit (.bool true)], args := [d] }
  | _ => none }
def stableBackRow : OpenClaim := { program := "ytohiemdodffhoaa", sum := "05dcbde72bf9ec98f5052f41e5b848ca7c9fb41e4c72f648798cd2963a171b01", func := "towncrier/towncrierlaw11.StableBack", spec := "stableBack", inPlace := ["slices.overlaps[towncrier/api.Seen]"], unfollowed := true, recurses := true, apart := false }
def StableBackSaid : Prop := stableBackRow.holds Try.pinned (OpenSpec.ofChange stableBackSpec)

/-- ITS FALSE NEIGHBOUR: 'it returns false'. Refute it at one input. -/
def stableBackWrong : ChangeSpec := { name := "stableBack", fn := fun _ => fun
  | [d] => { results := [.lit (.bool false)], args := [d] }
  | _ => none }
def StableBackWrongFalsely : Prop := stableBackRow.holds Try.pinned (OpenSpec.ofChange stableBackWrong)

/-- 'towncrierlaw11.StableGoes': WHATEVER THE INPUT: true; the input reads as it did. -/
def stableGoesSpec : ChangeSpec := { name := "stableGoes", fn := fun _ => fun
  | [d1, d2, d3, d4] => { results := [.lit (.bool true)], args := [d1, d2, d3, d4] }
  | _ => none }
def stableGoesRow : OpenClaim := { program := "ytohiemdodffhoaa", sum := "05dcbde72bf9ec98f5052f41e5b848ca7c9fb41e4c72f648798cd2963a171b01", func := "towncrier/towncrierlaw11.StableGoes", spec := "stableGoes", inPlace := ["slices.overlaps[towncrier/api.Seen]"], unfollowed := true, recurses := true, apart := false }
def StableGoesSaid : Prop := stableGoesRow.holds Try.pinned (OpenSpec.ofChange stableGoesSpec)

/-- ITS FALSE NEIGHBOUR: 'it returns false'. Refute it at one input. -/
def stableGoesWrong : ChangeSpec := { name := "stableGoes", fn := fun _ => fun
  | [d1, d2, d3, d4] => { results := [.lit (.bool false)], args := [d1, d2, d3, d4] }
  | _ => none }
def StableGoesWrongFalsely : Prop := stableGoesRow.holds Try.pinned (OpenSpec.ofChange stableGoesWrong)

/-- 'towncrierlaw11.StableOn': WHATEVER THE INPUT: true; the input reads as it did. -/
def stableOnSpec : ChangeSpec := { name := "stableOn", fn := fun _ => fun
  | [d1, d2, d3] => { results := [.lit (.bool true)], args := [d1, d2, d3] }
  | _ => none }
def stableOnRow : OpenClaim := { program := "ytohiemdodffhoaa", sum := "05dcbde72bf9ec98f5052f41e5b848ca7c9fb41e4c72f648798cd2963a171b01", func := "towncrier/towncrierlaw11.StableOn", spec := "stableOn", inPlace := ["slices.overlaps[towncrier/api.Seen]"], unfollowed := true, recurses := true, apart := false }
def StableOnSaid : Prop := stableOnRow.holds Try.pinned (OpenSpec.ofChange stableOnSpec)

/-- ITS FALSE NEIGHBOUR: 'it returns false'. Refute it at one input. -/
def stableOnWrong : ChangeSpec := { name := "stableOn", fn := fun _ => fun
  | [d1, d2, d3] => { results := [.lit (.bool false)], args := [d1, d2, d3] }
  | _ => none }
def StableOnWrongFalsely : Prop := stableOnRow.holds Try.pinned (OpenSpec.ofChange stableOnWrong)

/- THE SECOND FORM. 'bulk': how many values and letters a reading holds, each counted each time it is reached (what is shared counts as often as it is met; a slice's spare places count too). A statement '..UptoSaid' is the law's where the arguments, and the package variables that the reading takes, are together of bulk at most 1048576: NARROWER than '..Said'. Prove '..Said' where nothing that the law and all that it calls make is longer than what came in: it says more and counts as full. Else prove '..UptoSaid'. A law counts once. -/
mutual
def uptoBulk {H : Type} : DataW H → Nat
  | .lit (.string bytes) => bytes.length + 1
  | .lit _ => 1
  | .nil => 1
  | .ptr d => uptoBulk d + 1
  | .slice elems spare => uptoBulkAll elems + uptoBulkAll spare + 1
  | .agg parts => uptoBulkAll parts + 1
  | .iface _ d => uptoBulk d + 1
  | .map entries => uptoBulkEntries entries + 1
  | .held _ => 1
def uptoBulkAll {H : Type} : List (DataW H) → Nat
  | [] => 0
  | d :: r => uptoBulk d + uptoBulkAll r
def uptoBulkEntries {H : Type} : List (Lit × DataW H) → Nat
  | [] => 0
  | x :: r => uptoBulkEntry x + uptoBulkEntries r
def uptoBulkEntry {H : Type} : Lit × DataW H → Nat
  | (.string bytes, d) => bytes.length + uptoBulk d + 1
  | (_, d) => uptoBulk d + 1
 end
def uptoSmall : (H : Type) → List (DataW H) → Bool := fun _ ds => decide (uptoBulkAll ds ≤ 1048576)
def OpenSpec.upto (s : _root_.Go.ChangeSpec) : _root_.Go.OpenSpec := { _root_.Go.OpenSpec.ofChange s with cond := some uptoSmall }

/-- 'towncrierlaw11.StableNames', WHERE WHAT IT READS IS OF BULK AT MOST 1048576: true; the input reads as it did. -/
def stableNamesUptoRow : OpenClaim := { program := "ytohiemdodffhoaa", sum := "05dcbde72bf9ec98f5052f41e5b848ca7c9fb41e4c72f648798cd2963a171b01", func := "towncrier/towncrierlaw11.StableNames", spec := "stableNames", inPlace := ["slices.overlaps[towncrier/api.Seen]"], unfollowed := true, recurses := true, apart := false, narrowed := true }
def StableNamesUptoSaid : Prop := stableNamesUptoRow.holds Try.pinned (OpenSpec.upto stableNamesSpec)

/-- 'towncrierlaw11.StableDoes', WHERE WHAT IT READS IS OF BULK AT MOST 1048576: true; the input reads as it did. -/
def stableDoesUptoRow : OpenClaim := { program := "ytohiemdodffhoaa", sum := "05dcbde72bf9ec98f5052f41e5b848ca7c9fb41e4c72f648798cd2963a171b01", func := "towncrier/towncrierlaw11.StableDoes", spec := "stableDoes", inPlace := ["slices.overlaps[towncrier/api.Seen]"], unfollowed := true, recurses := true, apart := false, narrowed := true }
def StableDoesUptoSaid : Prop := stableDoesUptoRow.holds Try.pinned (OpenSpec.upto stableDoesSpec)

/-- 'towncrierlaw11.StableReplays', WHERE WHAT IT READS IS OF BULK AT MOST 1048576: true; the input reads as it did. -/
def stableReplaysUptoRow : OpenClaim := { program := "ytohiemdodffhoaa", sum := "05dcbde72bf9ec98f5052f41e5b848ca7c9fb41e4c72f648798cd2963a171b01", func := "towncrier/towncrierlaw11.StableReplays", spec := "stableReplays", inPlace := ["slices.overlaps[towncrier/api.Seen]"], unfollowed := true, recurses := true, apart := false, narrowed := true }
def StableReplaysUptoSaid : Prop := stableReplaysUptoRow.holds Try.pinned (OpenSpec.upto stableReplaysSpec)

/-- 'towncrierlaw11.StableBack', WHERE WHAT IT READS IS OF BULK AT MOST 1048576: true; the input reads as it did. -/
def stableBackUptoRow : OpenClaim := { program := "ytohiemdodffhoaa", sum := "05dcbde72bf9ec98f5052f41e5b848ca7c9fb41e4c72f648798cd2963a171b01", func := "towncrier/towncrierlaw11.StableBack", spec := "stableBack", inPlace := ["slices.overlaps[towncrier/api.Seen]"], unfollowed := true, recurses := true, apart := false, narrowed := true }
def StableBackUptoSaid : Prop := stableBackUptoRow.holds Try.pinned (OpenSpec.upto stableBackSpec)

/-- 'towncrierlaw11.StableGoes', WHERE WHAT IT READS IS OF BULK AT MOST 1048576: true; the input reads as it did. -/
def stableGoesUptoRow : OpenClaim := { program := "ytohiemdodffhoaa", sum := "05dcbde72bf9ec98f5052f41e5b848ca7c9fb41e4c72f648798cd2963a171b01", func := "towncrier/towncrierlaw11.StableGoes", spec := "stableGoes", inPlace := ["slices.overlaps[towncrier/api.Seen]"], unfollowed := true, recurses := true, apart := false, narrowed := true }
def StableGoesUptoSaid : Prop := stableGoesUptoRow.holds Try.pinned (OpenSpec.upto stableGoesSpec)

/-- 'towncrierlaw11.StableOn', WHERE WHAT IT READS IS OF BULK AT MOST 1048576: true; the input reads as it did. -/
def stableOnUptoRow : OpenClaim := { program := "ytohiemdodffhoaa", sum := "05dcbde72bf9ec98f5052f41e5b848ca7c9fb41e4c72f648798cd2963a171b01", func := "towncrier/towncrierlaw11.StableOn", spec := "stableOn", inPlace := ["slices.overlaps[towncrier/api.Seen]"], unfollowed := true, recurses := true, apart := false, narrowed := true }
def StableOnUptoSaid : Prop := stableOnUptoRow.holds Try.pinned (OpenSpec.upto stableOnSpec)

end Rows
end Go.Proofs.Ytohiemdodffhoaa
