/-
  No cell of these rows narrows 'for every input' (looked for: loops, veiled, ifaces, maps, wideKeys, modest, calm, conditions, laid).
  DERIVED. THE GIVEN ROWS OF THIS SEAT. 6 by the template 'for every input the law returns true; each argument reads behind the call as it read before'; 0 by the template 'total and deterministic' (their statements: YtboahceibeeifaaTotals.lean).
  GIVEN WITH THE SEED: the statements are not yours to turn. If you find one false, say at which input.
  Laid BY PROGRAM, IN A SANDBOX (cutbox-rows.mjs): the forced cells as the released guide's own fill.sh prints them over the translation 90abe2b937eaa513… (all of the seat's roots in one cut). By AI agents, Wed Nov 11 2026. No macro, syntax, notation, axiom, sorry.
-/
import Derived.Test.YtboahceibeeifaaChecked
import GoSem.Claim
import GoSem.ClaimJoined
import GoSem.ClaimMapViews
import Derived.JoinedTies
import Derived.KernelRfl
namespace Go.Proofs.Ytboahceibeeifaa
/- THE CELL 'sum', in the pinned program and in every row, IS THE sha256 OF THE DUMP (.gsa) THAT YtboahceibeeifaaProg.lean LOADS. Nothing in Lean hashes anything: it is a label: what it is worth is what the hold of that sum in a sandbox is worth. -/
noncomputable def Try.pinned : Pinned := { name := "ytboahceibeeifaa", sum := "90abe2b937eaa5133e712d5b0c02d2f1464934e52179d25bb9d74787b43526f6", checked := Try.checked }
namespace Rows
def none {H : Type} : Left H := { results := [], args := [] }

/-- 'laws.FnJoins': WHATEVER THE INPUT: true; the input reads as it did. -/
def fnJoinsSpec : ChangeSpec := { name := "fnJoins", fn := fun _ => fun
  | [d] => { results := [.lit (.bool true)], args := [d] }
  | _ => none }
def fnJoinsRow : OpenClaim := { program := "ytboahceibeeifaa", sum := "90abe2b937eaa5133e712d5b0c02d2f1464934e52179d25bb9d74787b43526f6", func := "loop.example/g03304/laws.FnJoins", spec := "fnJoins", recurses := true, apart := false }
def FnJoinsSaid : Prop := fnJoinsRow.holds Try.pinned (OpenSpec.ofChange fnJoinsSpec)

/-- ITS FALSE NEIGHBOUR: 'it returns false'. Refute it at one input. -/
def fnJoinsWrong : ChangeSpec := { name := "fnJoins", fn := fun _ => fun
  | [d] => { results := [.lit (.bool false)], args := [d] }
  | _ => none }
def FnJoinsWrongFalsely : Prop := fnJoinsRow.holds Try.pinned (OpenSpec.ofChange fnJoinsWrong)

/-- 'laws.FnExactJoinsOf': WHATEVER THE INPUT: true; the input reads as it did. -/
def fnExactJoinsOfSpec : ChangeSpec := { name := "fnExactJoinsOf", fn := fun _ => fun
  | [d] => { results := [.lit (.bool true)], args := [d] }
  | _ => none }
def fnExactJoinsOfRow : OpenClaim := { program := "ytboahceibeeifaa", sum := "90abe2b937eaa5133e712d5b0c02d2f1464934e52179d25bb9d74787b43526f6", func := "loop.example/g03304/laws.FnExactJoinsOf", spec := "fnExactJoinsOf", recurses := true, apart := false }
def FnExactJoinsOfSaid : Prop := fnExactJoinsOfRow.holds Try.pinned (OpenSpec.ofChange fnExactJoinsOfSpec)

/-- ITS FALSE NEIGHBOUR: 'it returns false'. Refute it at one input. -/
def fnExactJoinsOfWrong : ChangeSpec := { name := "fnExactJoinsOf", fn := fun _ => fun
  | [d] => { results := [.lit (.bool false)], args := [d] }
  | _ => none }
def FnExactJoinsOfWrongFalsely : Prop := fnExactJoinsOfRow.holds Try.pinned (OpenSpec.ofChange fnExactJoinsOfWrong)

/-- 'laws.FnExactUnitBox': WHATEVER THE INPUT: true; the input reads as it did. -/
def fnExactUnitBoxSpec : ChangeSpec := { name := "fnExactUnitBox", fn := fun _ => fun
  | [d1, d2, d3] => { results := [.lit (.bool true)], args := [d1, d2, d3] }
  | _ => none }
def fnExactUnitBoxRow : OpenClaim := { program := "ytboahceibeeifaa", sum := "90abe2b937eaa5133e712d5b0c02d2f1464934e52179d25bb9d74787b43526f6", func := "loop.example/g03304/laws.FnExactUnitBox", spec := "fnExactUnitBox", apart := false }
def FnExactUnitBoxSaid : Prop := fnExactUnitBoxRow.holds Try.pinned (OpenSpec.ofChange fnExactUnitBoxSpec)

/-- ITS FALSE NEIGHBOUR: 'it returns false'. Refute it at one input. -/
def fnExactUnitBoxWrong : ChangeSpec := { name := "fnExactUnitBox", fn := fun _ => fun
  | [d1, d2, d3] => { results := [.lit (.bool false)], args := [d1, d2, d3] }
  | _ => none }
def FnExactUnitBoxWrongFalsely : Prop := fnExactUnitBoxRow.holds Try.pinned (OpenSpec.ofChange fnExactUnitBoxWrong)

/-- 'laws.FnExactAreJoins': WHATEVER THE INPUT: true; the input reads as it did. -/
def fnExactAreJoinsSpec : ChangeSpec := { name := "fnExactAreJoins", fn := fun _ => fun
  | [d1, d2] => { results := [.lit (.bool true)], args := [d1, d2] }
  | _ => none }
def fnExactAreJoinsRow : OpenClaim := { program := "ytboahceibeeifaa", sum := "90abe2b937eaa5133e712d5b0c02d2f1464934e52179d25bb9d74787b43526f6", func := "loop.example/g03304/laws.FnExactAreJoins", spec := "fnExactAreJoins", apart := false }
def FnExactAreJoinsSaid : Prop := fnExactAreJoinsRow.holds Try.pinned (OpenSpec.ofChange fnExactAreJoinsSpec)

/-- ITS FALSE NEIGHBOUR: 'it returns false'. Refute it at one input. -/
def fnExactAreJoinsWrong : ChangeSpec := { name := "fnExactAreJoins", fn := fun _ => fun
  | [d1, d2] => { results := [.lit (.bool false)], args := [d1, d2] }
  | _ => none }
def FnExactAreJoinsWrongFalsely : Prop := fnExactAreJoinsRow.holds Try.pinned (OpenSpec.ofChange fnExactAreJoinsWrong)

/-- 'laws.FnExactDepthOf': WHATEVER THE INPUT: true; the input reads as it did. -/
def fnExactDepthOfSpec : ChangeSpec := { name := "fnExactDepthOf", fn := fun _ => fun
  | [d1, d2] => { results := [.lit (.bool true)], args := [d1, d2] }
  | _ => none }
def fnExactDepthOfRow : OpenClaim := { program := "ytboahceibeeifaa", sum := "90abe2b937eaa5133e712d5b0c02d2f1464934e52179d25bb9d74787b43526f6", func := "loop.example/g03304/laws.FnExactDepthOf", spec := "fnExactDepthOf", apart := false }
def FnExactDepthOfSaid : Prop := fnExactDepthOfRow.holds Try.pinned (OpenSpec.ofChange fnExactDepthOfSpec)

/-- ITS FALSE NEIGHBOUR: 'it returns false'. Refute it at one input. -/
def fnExactDepthOfWrong : ChangeSpec := { name := "fnExactDepthOf", fn := fun _ => fun
  | [d1, d2] => { results := [.lit (.bool false)], args := [d1, d2] }
  | _ => none }
def FnExactDepthOfWrongFalsely : Prop := fnExactDepthOfRow.holds Try.pinned (OpenSpec.ofChange fnExactDepthOfWrong)

/-- 'laws.FnExactLongestSeam': WHATEVER THE INPUT: true; the input reads as it did. -/
def fnExactLongestSeamSpec : ChangeSpec := { name := "fnExactLongestSeam", fn := fun _ => fun
  | [d1, d2] => { results := [.lit (.bool true)], args := [d1, d2] }
  | _ => none }
def fnExactLongestSeamRow : OpenClaim := { program := "ytboahceibeeifaa", sum := "90abe2b937eaa5133e712d5b0c02d2f1464934e52179d25bb9d74787b43526f6", func := "loop.example/g03304/laws.FnExactLongestSeam", spec := "fnExactLongestSeam", apart := false }
def FnExactLongestSeamSaid : Prop := fnExactLongestSeamRow.holds Try.pinned (OpenSpec.ofChange fnExactLongestSeamSpec)

/-- ITS FALSE NEIGHBOUR: 'it returns false'. Refute it at one input. -/
def fnExactLongestSeamWrong : ChangeSpec := { name := "fnExactLongestSeam", fn := fun _ => fun
  | [d1, d2] => { results := [.lit (.bool false)], args := [d1, d2] }
  | _ => none }
def FnExactLongestSeamWrongFalsely : Prop := fnExactLongestSeamRow.holds Try.pinned (OpenSpec.ofChange fnExactLongestSeamWrong)

/- THE SECOND FORM. 'bulk': how many values and letters a reading holds, each counted each time it is reached (what is shared counts as often as it is met; a slice's spare places count too). A statement '..UptoSaid' is the law's where the arguments, and the package variables that the reading takes, are together of bulk at most 1048576: NARROWER than '..Said'. Prove '..Said' where nothing that the law and all that it calls make is longer than what came in: it says more and counts as full. Else prove '..UptoSaid'. A law counts once. -/
mutual
def uptoBulk {H : Type} : DataW H → Nat
  | .lit (.string bytes) => bytes.length + 1
  | .lit _ => 1
  | .nil => 1
  | .ptr d => uptoBulk d + 1
  | .slice elems spare => uptoBulkAll elems + uptoBulkAll spare + 1
  | .agg parts => uptoBulkAll parts + 1
  | .iface _ d => uptoBulk d + 1
  | .map entries => uptoBulkEntries entries + 1
  | .held _ => 1
def uptoBulkAll {H : Type} : List (DataW H) → Nat
  | [] => 0
  | d :: r => uptoBulk d + uptoBulkAll r
def uptoBulkEntries {H : Type} : List (Lit × DataW H) → Nat
  | [] => 0
  | x :: r => uptoBulkEntry x + uptoBulkEntries r
def uptoBulkEntry {H : Type} : Lit × DataW H → Nat
  | (.string bytes, d) => bytes.length + uptoBulk d + 1
  | (_, d) => uptoBulk d + 1
 end
def uptoSmall : (H : Type) → List (DataW H) → Bool := fun _ ds => decide (uptoBulkAll ds ≤ 1048576)
def OpenSpec.upto (s : _root_.Go.ChangeSpec) : _root_.Go.OpenSpec := { _root_.Go.OpenSpec.ofChange s with cond := some uptoSmall }

/-- 'laws.FnJoins', WHERE WHAT IT READS IS OF BULK AT MOST 1048576: true; the input reads as it did. -/
def fnJoinsUptoRow : OpenClaim := { program := "ytboahceibeeifaa", sum := "90abe2b937eaa5133e712d5b0c02d2f1464934e52179d25bb9d74787b43526f6", func := "loop.example/g03304/laws.FnJoins", spec := "fnJoins", recurses := true, apart := false, narrowed := true }
def FnJoinsUptoSaid : Prop := fnJoinsUptoRow.holds Try.pinned (OpenSpec.upto fnJoinsSpec)

/-- 'laws.FnExactJoinsOf', WHERE WHAT IT READS IS OF BULK AT MOST 1048576: true; the input reads as it did. -/
def fnExactJoinsOfUptoRow : OpenClaim := { program := "ytboahceibeeifaa", sum := "90abe2b937eaa5133e712d5b0c02d2f1464934e52179d25bb9d74787b43526f6", func := "loop.example/g03304/laws.FnExactJoinsOf", spec := "fnExactJoinsOf", recurses := true, apart := false, narrowed := true }
def FnExactJoinsOfUptoSaid : Prop := fnExactJoinsOfUptoRow.holds Try.pinned (OpenSpec.upto fnExactJoinsOfSpec)

/-- 'laws.FnExactUnitBox', WHERE WHAT IT READS IS OF BULK AT MOST 1048576: true; the input reads as it did. -/
def fnExactUnitBoxUptoRow : OpenClaim := { program := "ytboahceibeeifaa", sum := "90abe2b937eaa5133e712d5b0c02d2f1464934e52179d25bb9d74787b43526f6", func := "loop.example/g03304/laws.FnExactUnitBox", spec := "fnExactUnitBox", apart := false, narrowed := true }
def FnExactUnitBoxUptoSaid : Prop := fnExactUnitBoxUptoRow.holds Try.pinned (OpenSpec.upto fnExactUnitBoxSpec)

/-- 'laws.FnExactAreJoins', WHERE WHAT IT READS IS OF BULK AT MOST 1048576: true; the input reads as it did. -/
def fnExactAreJoinsUptoRow : OpenClaim := { program := "ytboahceibeeifaa", sum := "90abe2b937eaa5133e712d5b0c02d2f1464934e52179d25bb9d74787b43526f6", func := "loop.example/g03304/laws.FnExactAreJoins", spec := "fnExactAreJoins", apart := false, narrowed := true }
def FnExactAreJoinsUptoSaid : Prop := fnExactAreJoinsUptoRow.holds Try.pinned (OpenSpec.upto fnExactAreJoinsSpec)

/-- 'laws.FnExactDepthOf', WHERE WHAT IT READS IS OF BULK AT MOST 1048576: true; the input reads as it did. -/
def fnExactDepthOfUptoRow : OpenClaim := { program := "ytboahceibeeifaa", sum := "90abe2b937eaa5133e712d5b0c02d2f1464934e52179d25bb9d74787b43526f6", func := "loop.example/g03304/laws.FnExactDepthOf", spec := "fnExactDepthOf", apart := false, narrowed := true }
def FnExactDepthOfUptoSaid : Prop := fnExactDepthOfUptoRow.holds Try.pinned (OpenSpec.upto fnExactDepthOfSpec)

/-- 'laws.FnExactLongestSeam', WHERE WHAT IT READS IS OF BULK AT MOST 1048576: true; the input reads as it did. -/
def fnExactLongestSeamUptoRow : OpenClaim := { program := "ytboahceibeeifaa", sum := "90abe2b937eaa5133e712d5b0c02d2f1464934e52179d25bb9d74787b43526f6", func := "loop.example/g03304/laws.FnExactLongestSeam", spec := "fnExactLongestSeam", apart := false, narrowed := true }
def FnExactLongestSeamUptoSaid : Prop := fnExactLongestSeamUptoRow.holds Try.pinned (OpenSpec.upto fnExactLongestSeamSpec)

end Rows
end Go.Proofs.Ytboahceibeeifaa
