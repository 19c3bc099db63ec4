/-
  No cell of these rows narrows 'for every input' (looked for: loops, veiled, ifaces, maps, wideKeys, modest, calm, conditions, laid).
  DERIVED. THE GIVEN ROWS OF THIS SEAT. 6 by the template 'for every input the law returns true; each argument reads behind the call as it read before'; 0 by the template 'total and deterministic' (their statements: YteebeiaokfenmaaGreatTotals.lean).
  GIVEN WITH THE SEED: the statements are not yours to turn. If you find one false, say at which input.
  Laid BY PROGRAM, IN A SANDBOX (cutbox-rows.mjs): the forced cells as the released guide's own fill.sh prints them over the translation e584f82abc1cde19… (all of the seat's roots in one cut). By AI agents, Wed Nov 11 2026. No macro, syntax, notation, axiom, sorry.
-/
import Derived.Test.YteebeiaokfenmaaGreatChecked
import GoSem.Claim
import GoSem.ClaimJoined
import GoSem.ClaimMapViews
import Derived.JoinedTies
import Derived.KernelRfl
namespace Go.Proofs.YteebeiaokfenmaaGreat
/- THE CELL 'sum', in the pinned program and in every row, IS THE sha256 OF THE DUMP (.gsa) THAT YteebeiaokfenmaaGreatProg.lean LOADS. Nothing in Lean hashes anything: it is a label: what it is worth is what the hold of that sum in a sandbox is worth. -/
noncomputable def Tryz.pinned : Pinned := { name := "yteebeiaokfenmaagreat", sum := "e584f82abc1cde199ab296cf4f4f724986fa0089a811e492d0d9a38fa36ff8f2", checked := Tryz.checked }
namespace Rows
def none {H : Type} : Left H := { results := [], args := [] }

/-- 'towncrierlaw16.OrderNames': WHATEVER THE INPUT: true; the input reads as it did. -/
def orderNamesSpec : ChangeSpec := { name := "orderNames", fn := fun _ => fun
  | [] => { results := [.lit (.bool true)], args := [] }
  | _ => none }
def orderNamesRow : OpenClaim := { program := "yteebeiaokfenmaagreat", sum := "e584f82abc1cde199ab296cf4f4f724986fa0089a811e492d0d9a38fa36ff8f2", func := "towncrier/towncrierlaw16.OrderNames", spec := "orderNames", inPlace := ["slices.overlaps[towncrier/api.Wait]"], unfollowed := true, recurses := true, apart := false }
def OrderNamesSaid : Prop := orderNamesRow.holds Tryz.pinned (OpenSpec.ofChange orderNamesSpec)

/-- ITS FALSE NEIGHBOUR: 'it returns false'. Refute it at one input. -/
def orderNamesWrong : ChangeSpec := { name := "orderNames", fn := fun _ => fun
  | [] => { results := [.lit (.bool false)], args := [] }
  | _ => none }
def OrderNamesWrongFalsely : Prop := orderNamesRow.holds Tryz.pinned (OpenSpec.ofChange orderNamesWrong)

/-- 'towncrierlaw16.OrderPlays': WHATEVER THE INPUT: true; the input reads as it did. -/
def orderPlaysSpec : ChangeSpec := { name := "orderPlays", fn := fun _ => fun
  | [d1, d2] => { results := [.lit (.bool true)], args := [d1, d2] }
  | _ => none }
def orderPlaysRow : OpenClaim := { program := "yteebeiaokfenmaagreat", sum := "e584f82abc1cde199ab296cf4f4f724986fa0089a811e492d0d9a38fa36ff8f2", func := "towncrier/towncrierlaw16.OrderPlays", spec := "orderPlays", inPlace := ["slices.overlaps[towncrier/api.Wait]"], unfollowed := true, recurses := true, apart := false }
def OrderPlaysSaid : Prop := orderPlaysRow.holds Tryz.pinned (OpenSpec.ofChange orderPlaysSpec)

/-- ITS FALSE NEIGHBOUR: 'it returns false'. Refute it at one input. -/
def orderPlaysWrong : ChangeSpec := { name := "orderPlays", fn := fun _ => fun
  | [d1, d2] => { results := [.lit (.bool false)], args := [d1, d2] }
  | _ => none }
def OrderPlaysWrongFalsely : Prop := orderPlaysRow.holds Tryz.pinned (OpenSpec.ofChange orderPlaysWrong)

/-- 'towncrierlaw16.OrderAsks': WHATEVER THE INPUT: true; the input reads as it did. -/
def orderAsksSpec : ChangeSpec := { name := "orderAsks", fn := fun _ => fun
  | [d1, d2, d3, d4] => { results := [.lit (.bool true)], args := [d1, d2, d3, d4] }
  | _ => none }
def orderAsksRow : OpenClaim := { program := "yteebeiaokfenmaagreat", sum := "e584f82abc1cde199ab296cf4f4f724986fa0089a811e492d0d9a38fa36ff8f2", func := "towncrier/towncrierlaw16.OrderAsks", spec := "orderAsks", inPlace := ["slices.overlaps[towncrier/api.Wait]"], unfollowed := true, recurses := true, apart := false }
def OrderAsksSaid : Prop := orderAsksRow.holds Tryz.pinned (OpenSpec.ofChange orderAsksSpec)

/-- ITS FALSE NEIGHBOUR: 'it returns false'. Refute it at one input. -/
def orderAsksWrong : ChangeSpec := { name := "orderAsks", fn := fun _ => fun
  | [d1, d2, d3, d4] => { results := [.lit (.bool false)], args := [d1, d2, d3, d4] }
  | _ => none }
def OrderAsksWrongFalsely : Prop := orderAsksRow.holds Tryz.pinned (OpenSpec.ofChange orderAsksWrong)

/-- 'towncrierlaw16.OrderAgrees': WHATEVER THE INPUT: true; the input reads as it did. -/
def orderAgreesSpec : ChangeSpec := { name := "orderAgrees", fn := fun _ => fun
  | [d] => { results := [.lit (.bool true)], args := [d] }
  | _ => none }
def orderAgreesRow : OpenClaim := { program := "yteebeiaokfenmaagreat", sum := "e584f82abc1cde199ab296cf4f4f724986fa0089a811e492d0d9a38fa36ff8f2", func := "towncrier/towncrierlaw16.OrderAgrees", spec := "orderAgrees", inPlace := ["slices.overlaps[towncrier/api.Wait]"], unfollowed := true, recurses := true, apart := false }
def OrderAgreesSaid : Prop := orderAgreesRow.holds Tryz.pinned (OpenSpec.ofChange orderAgreesSpec)

/-- ITS FALSE NEIGHBOUR: 'it returns false'. Refute it at one input. -/
def orderAgreesWrong : ChangeSpec := { name := "orderAgrees", fn := fun _ => fun
  | [d] => { results := [.lit (.bool false)], args := [d] }
  | _ => none }
def OrderAgreesWrongFalsely : Prop := orderAgreesRow.holds Tryz.pinned (OpenSpec.ofChange orderAgreesWrong)

/-- 'towncrierlaw16.OrderBegins': WHATEVER THE INPUT: true; the input reads as it did. -/
def orderBeginsSpec : ChangeSpec := { name := "orderBegins", fn := fun _ => fun
  | [d1, d2, d3] => { results := [.lit (.bool true)], args := [d1, d2, d3] }
  | _ => none }
def orderBeginsRow : OpenClaim := { program := "yteebeiaokfenmaagreat", sum := "e584f82abc1cde199ab296cf4f4f724986fa0089a811e492d0d9a38fa36ff8f2", func := "towncrier/towncrierlaw16.OrderBegins", spec := "orderBegins", inPlace := ["slices.overlaps[towncrier/api.Wait]"], unfollowed := true, recurses := true, apart := false }
def OrderBeginsSaid : Prop := orderBeginsRow.holds Tryz.pinned (OpenSpec.ofChange orderBeginsSpec)

/-- ITS FALSE NEIGHBOUR: 'it returns false'. Refute it at one input. -/
def orderBeginsWrong : ChangeSpec := { name := "orderBegins", fn := fun _ => fun
  | [d1, d2, d3] => { results := [.lit (.bool false)], args := [d1, d2, d3] }
  | _ => none }
def OrderBeginsWrongFalsely : Prop := orderBeginsRow.holds Tryz.pinned (OpenSpec.ofChange orderBeginsWrong)

/-- 'towncrierlaw16.OrderFinal': WHATEVER THE INPUT: true; the input reads as it did. -/
def orderFinalSpec : ChangeSpec := { name := "orderFinal", fn := fun _ => fun
  | [d1, d2, d3] => { results := [.lit (.bool true)], args := [d1, d2, d3] }
  | _ => none }
def orderFinalRow : OpenClaim := { program := "yteebeiaokfenmaagreat", sum := "e584f82abc1cde199ab296cf4f4f724986fa0089a811e492d0d9a38fa36ff8f2", func := "towncrier/towncrierlaw16.OrderFinal", spec := "orderFinal", inPlace := ["slices.overlaps[towncrier/api.Wait]"], unfollowed := true, recurses := true, apart := false }
def OrderFinalSaid : Prop := orderFinalRow.holds Tryz.pinned (OpenSpec.ofChange orderFinalSpec)

/-- ITS FALSE NEIGHBOUR: 'it returns false'. Refute it at one input. -/
def orderFinalWrong : ChangeSpec := { name := "orderFinal", fn := fun _ => fun
  | [d1, d2, d3] => { results := [.lit (.bool false)], args := [d1, d2, d3] }
  | _ => none }
def OrderFinalWrongFalsely : Prop := orderFinalRow.holds Tryz.pinned (OpenSpec.ofChange orderFinalWrong)

/- THE SECOND FORM. 'bulk': how many values and letters a reading holds, each counted each time it is reached (what is shared counts as often as it is met; a slice's spare places count too). A statement '..UptoSaid' is the law's where the arguments, and the package variables that the reading takes, are together of bulk at most 1048576: NARROWER than '..Said'. Prove '..Said' where nothing that the law and all that it calls make is longer than what came in: it says more and counts as full. Else prove '..UptoSaid'. A law counts once. -/
mutual
def uptoBulk {H : Type} : DataW H → Nat
  | .lit (.string bytes) => bytes.length + 1
  | .lit _ => 1
  | .nil => 1
  | .ptr d => uptoBulk d + 1
  | .slice elems spare => uptoBulkAll elems + uptoBulkAll spare + 1
  | .agg parts => uptoBulkAll parts + 1
  | .iface _ d => uptoBulk d + 1
  | .map entries => uptoBulkEntries entries + 1
  | .held _ => 1
def uptoBulkAll {H : Type} : List (DataW H) → Nat
  | [] => 0
  | d :: r => uptoBulk d + uptoBulkAll r
def uptoBulkEntries {H : Type} : List (Lit × DataW H) → Nat
  | [] => 0
  | x :: r => uptoBulkEntry x + uptoBulkEntries r
def uptoBulkEntry {H : Type} : Lit × DataW H → Nat
  | (.string bytes, d) => bytes.length + uptoBulk d + 1
  | (_, d) => uptoBulk d + 1
 end
def uptoSmall : (H : Type) → List (DataW H) → Bool := fun _ ds => decide (uptoBulkAll ds ≤ 1048576)
def OpenSpec.upto (s : _root_.Go.ChangeSpec) : _root_.Go.OpenSpec := { _root_.Go.OpenSpec.ofChange s with cond := some uptoSmall }

/-- 'towncrierlaw16.OrderNames', WHERE WHAT IT READS IS OF BULK AT MOST 1048576: true; the input reads as it did. -/
def orderNamesUptoRow : OpenClaim := { program := "yteebeiaokfenmaagreat", sum := "e584f82abc1cde199ab296cf4f4f724986fa0089a811e492d0d9a38fa36ff8f2", func := "towncrier/towncrierlaw16.OrderNames", spec := "orderNames", inPlace := ["slices.overlaps[towncrier/api.Wait]"], unfollowed := true, recurses := true, apart := false, narrowed := true }
def OrderNamesUptoSaid : Prop := orderNamesUptoRow.holds Tryz.pinned (OpenSpec.upto orderNamesSpec)

/-- 'towncrierlaw16.OrderPlays', WHERE WHAT IT READS IS OF BULK AT MOST 1048576: true; the input reads as it did. -/
def orderPlaysUptoRow : OpenClaim := { program := "yteebeiaokfenmaagreat", sum := "e584f82abc1cde199ab296cf4f4f724986fa0089a811e492d0d9a38fa36ff8f2", func := "towncrier/towncrierlaw16.OrderPlays", spec := "orderPlays", inPlace := ["slices.overlaps[towncrier/api.Wait]"], unfollowed := true, recurses := true, apart := false, narrowed := true }
def OrderPlaysUptoSaid : Prop := orderPlaysUptoRow.holds Tryz.pinned (OpenSpec.upto orderPlaysSpec)

/-- 'towncrierlaw16.OrderAsks', WHERE WHAT IT READS IS OF BULK AT MOST 1048576: true; the input reads as it did. -/
def orderAsksUptoRow : OpenClaim := { program := "yteebeiaokfenmaagreat", sum := "e584f82abc1cde199ab296cf4f4f724986fa0089a811e492d0d9a38fa36ff8f2", func := "towncrier/towncrierlaw16.OrderAsks", spec := "orderAsks", inPlace := ["slices.overlaps[towncrier/api.Wait]"], unfollowed := true, recurses := true, apart := false, narrowed := true }
def OrderAsksUptoSaid : Prop := orderAsksUptoRow.holds Tryz.pinned (OpenSpec.upto orderAsksSpec)

/-- 'towncrierlaw16.OrderAgrees', WHERE WHAT IT READS IS OF BULK AT MOST 1048576: true; the input reads as it did. -/
def orderAgreesUptoRow : OpenClaim := { program := "yteebeiaokfenmaagreat", sum := "e584f82abc1cde199ab296cf4f4f724986fa0089a811e492d0d9a38fa36ff8f2", func := "towncrier/towncrierlaw16.OrderAgrees", spec := "orderAgrees", inPlace := ["slices.overlaps[towncrier/api.Wait]"], unfollowed := true, recurses := true, apart := false, narrowed := true }
def OrderAgreesUptoSaid : Prop := orderAgreesUptoRow.holds Tryz.pinned (OpenSpec.upto orderAgreesSpec)

/-- 'towncrierlaw16.OrderBegins', WHERE WHAT IT READS IS OF BULK AT MOST 1048576: true; the input reads as it did. -/
def orderBeginsUptoRow : OpenClaim := { program := "yteebeiaokfenmaagreat", sum := "e584f82abc1cde199ab296cf4f4f724986fa0089a811e492d0d9a38fa36ff8f2", func := "towncrier/towncrierlaw16.OrderBegins", spec := "orderBegins", inPlace := ["slices.overlaps[towncrier/api.Wait]"], unfollowed := true, recurses := true, apart := false, narrowed := true }
def OrderBeginsUptoSaid : Prop := orderBeginsUptoRow.holds Tryz.pinned (OpenSpec.upto orderBeginsSpec)

/-- 'towncrierlaw16.OrderFinal', WHERE WHAT IT READS IS OF BULK AT MOST 1048576: true; the input reads as it did. -/
def orderFinalUptoRow : OpenClaim := { program := "yteebeiaokfenmaagreat", sum := "e584f82abc1cde199ab296cf4f4f724986fa0089a811e492d0d9a38fa36ff8f2", func := "towncrier/towncrierlaw16.OrderFinal", spec := "orderFinal", inPlace := ["slices.overlaps[towncrier/api.Wait]"], unfollowed := true, recurses := true, apart := false, narrowed := true }
def OrderFinalUptoSaid : Prop := orderFinalUptoRow.holds Tryz.pinned (OpenSpec.upto orderFinalSpec)

end Rows
end Go.Proofs.YteebeiaokfenmaaGreat
