/-
  No cell of these rows narrows 'for every input' (looked for: loops, veiled, ifaces, maps, wideKeys, modest, calm, conditions, laid).
  DERIVED. THE GIVEN ROWS OF THIS SEAT. 7 by the template 'for every input the law returns true; each argument reads behind the call as it read before'; 0 by the template 'total and deterministic' (their statements: YtelpibdbnjmliaaTotals.lean).
  GIVEN WITH THE SEED: the statements are not yours to turn. If you find one false, say at which input.
  Laid BY PROGRAM, IN A SANDBOX (cutbox-rows.mjs): the forced cells as the released guide's own fill.sh prints them over the translation 9b143da4cdb9be7c… (all of the seat's roots in one cut). By AI agents, Wed Nov 11 2026. No macro, syntax, notation, axiom, sorry.
-/
import Derived.Test.YtelpibdbnjmliaaChecked
import GoSem.Claim
import GoSem.ClaimJoined
import GoSem.ClaimMapViews
import Derived.JoinedTies
import Derived.KernelRfl
namespace Go.Proofs.Ytelpibdbnjmliaa
/- THE CELL 'sum', in the pinned program and in every row, IS THE sha256 OF THE DUMP (.gsa) THAT YtelpibdbnjmliaaProg.lean LOADS. Nothing in Lean hashes anything: it is a label: what it is worth is what the hold of that sum in a sandbox is worth. -/
noncomputable def Try.pinned : Pinned := { name := "ytelpibdbnjmliaa", sum := "9b143da4cdb9be7ca785b7c23045a27f79de9de65ca45a73858125f6446c017a", checked := Try.checked }
namespace Rows
def none {H : Type} : Left H := { results := [], args := [] }

/-- 'laws.FnAreas': WHATEVER THE INPUT: true; the input reads as it did. -/
def fnAreasSpec : ChangeSpec := { name := "fnAreas", fn := fun _ => fun
  | [d] => { results := [.lit (.bool true)], args := [d] }
  | _ => none }
def fnAreasRow : OpenClaim := { program := "ytelpibdbnjmliaa", sum := "9b143da4cdb9be7ca785b7c23045a27f79de9de65ca45a73858125f6446c017a", func := "loop.example/g03304/laws.FnAreas", spec := "fnAreas", apart := false }
def FnAreasSaid : Prop := fnAreasRow.holds Try.pinned (OpenSpec.ofChange fnAreasSpec)

/-- ITS FALSE NEIGHBOUR: 'it returns false'. Refute it at one input. -/
def fnAreasWrong : ChangeSpec := { name := "fnAreas", fn := fun _ => fun
  | [d] => { results := [.lit (.bool false)], args := [d] }
  | _ => none }
def FnAreasWrongFalsely : Prop := fnAreasRow.holds Try.pinned (OpenSpec.ofChange fnAreasWrong)

/-- 'laws.FnExactCellArea': WHATEVER THE INPUT: true; the input reads as it did. -/
def fnExactCellAreaSpec : ChangeSpec := { name := "fnExactCellArea", fn := fun _ => fun
  | [d1, d2] => { results := [.lit (.bool true)], args := [d1, d2] }
  | _ => none }
def fnExactCellAreaRow : OpenClaim := { program := "ytelpibdbnjmliaa", sum := "9b143da4cdb9be7ca785b7c23045a27f79de9de65ca45a73858125f6446c017a", func := "loop.example/g03304/laws.FnExactCellArea", spec := "fnExactCellArea", apart := false }
def FnExactCellAreaSaid : Prop := fnExactCellAreaRow.holds Try.pinned (OpenSpec.ofChange fnExactCellAreaSpec)

/-- ITS FALSE NEIGHBOUR: 'it returns false'. Refute it at one input. -/
def fnExactCellAreaWrong : ChangeSpec := { name := "fnExactCellArea", fn := fun _ => fun
  | [d1, d2] => { results := [.lit (.bool false)], args := [d1, d2] }
  | _ => none }
def FnExactCellAreaWrongFalsely : Prop := fnExactCellAreaRow.holds Try.pinned (OpenSpec.ofChange fnExactCellAreaWrong)

/-- 'laws.FnExactAreaOf': WHATEVER THE INPUT: true; the input reads as it did. -/
def fnExactAreaOfSpec : ChangeSpec := { name := "fnExactAreaOf", fn := fun _ => fun
  | [d1, d2] => { results := [.lit (.bool true)], args := [d1, d2] }
  | _ => none }
def fnExactAreaOfRow : OpenClaim := { program := "ytelpibdbnjmliaa", sum := "9b143da4cdb9be7ca785b7c23045a27f79de9de65ca45a73858125f6446c017a", func := "loop.example/g03304/laws.FnExactAreaOf", spec := "fnExactAreaOf", apart := false }
def FnExactAreaOfSaid : Prop := fnExactAreaOfRow.holds Try.pinned (OpenSpec.ofChange fnExactAreaOfSpec)

/-- ITS FALSE NEIGHBOUR: 'it returns false'. Refute it at one input. -/
def fnExactAreaOfWrong : ChangeSpec := { name := "fnExactAreaOf", fn := fun _ => fun
  | [d1, d2] => { results := [.lit (.bool false)], args := [d1, d2] }
  | _ => none }
def FnExactAreaOfWrongFalsely : Prop := fnExactAreaOfRow.holds Try.pinned (OpenSpec.ofChange fnExactAreaOfWrong)

/-- 'laws.FnExactAreaTable': WHATEVER THE INPUT: true; the input reads as it did. -/
def fnExactAreaTableSpec : ChangeSpec := { name := "fnExactAreaTable", fn := fun _ => fun
  | [d] => { results := [.lit (.bool true)], args := [d] }
  | _ => none }
def fnExactAreaTableRow : OpenClaim := { program := "ytelpibdbnjmliaa", sum := "9b143da4cdb9be7ca785b7c23045a27f79de9de65ca45a73858125f6446c017a", func := "loop.example/g03304/laws.FnExactAreaTable", spec := "fnExactAreaTable", apart := false }
def FnExactAreaTableSaid : Prop := fnExactAreaTableRow.holds Try.pinned (OpenSpec.ofChange fnExactAreaTableSpec)

/-- ITS FALSE NEIGHBOUR: 'it returns false'. Refute it at one input. -/
def fnExactAreaTableWrong : ChangeSpec := { name := "fnExactAreaTable", fn := fun _ => fun
  | [d] => { results := [.lit (.bool false)], args := [d] }
  | _ => none }
def FnExactAreaTableWrongFalsely : Prop := fnExactAreaTableRow.holds Try.pinned (OpenSpec.ofChange fnExactAreaTableWrong)

/-- 'laws.FnExactMainColor': WHATEVER THE INPUT: true; the input reads as it did. -/
def fnExactMainColorSpec : ChangeSpec := { name := "fnExactMainColor", fn := fun _ => fun
  | [d] => { results := [.lit (.bool true)], args := [d] }
  | _ => none }
def fnExactMainColorRow : OpenClaim := { program := "ytelpibdbnjmliaa", sum := "9b143da4cdb9be7ca785b7c23045a27f79de9de65ca45a73858125f6446c017a", func := "loop.example/g03304/laws.FnExactMainColor", spec := "fnExactMainColor", apart := false }
def FnExactMainColorSaid : Prop := fnExactMainColorRow.holds Try.pinned (OpenSpec.ofChange fnExactMainColorSpec)

/-- ITS FALSE NEIGHBOUR: 'it returns false'. Refute it at one input. -/
def fnExactMainColorWrong : ChangeSpec := { name := "fnExactMainColor", fn := fun _ => fun
  | [d] => { results := [.lit (.bool false)], args := [d] }
  | _ => none }
def FnExactMainColorWrongFalsely : Prop := fnExactMainColorRow.holds Try.pinned (OpenSpec.ofChange fnExactMainColorWrong)

/-- 'laws.FnExactIsBalanced': WHATEVER THE INPUT: true; the input reads as it did. -/
def fnExactIsBalancedSpec : ChangeSpec := { name := "fnExactIsBalanced", fn := fun _ => fun
  | [d] => { results := [.lit (.bool true)], args := [d] }
  | _ => none }
def fnExactIsBalancedRow : OpenClaim := { program := "ytelpibdbnjmliaa", sum := "9b143da4cdb9be7ca785b7c23045a27f79de9de65ca45a73858125f6446c017a", func := "loop.example/g03304/laws.FnExactIsBalanced", spec := "fnExactIsBalanced", apart := false }
def FnExactIsBalancedSaid : Prop := fnExactIsBalancedRow.holds Try.pinned (OpenSpec.ofChange fnExactIsBalancedSpec)

/-- ITS FALSE NEIGHBOUR: 'it returns false'. Refute it at one input. -/
def fnExactIsBalancedWrong : ChangeSpec := { name := "fnExactIsBalanced", fn := fun _ => fun
  | [d] => { results := [.lit (.bool false)], args := [d] }
  | _ => none }
def FnExactIsBalancedWrongFalsely : Prop := fnExactIsBalancedRow.holds Try.pinned (OpenSpec.ofChange fnExactIsBalancedWrong)

/-- 'laws.FnExactCountTriangles': WHATEVER THE INPUT: true; the input reads as it did. -/
def fnExactCountTrianglesSpec : ChangeSpec := { name := "fnExactCountTriangles", fn := fun _ => fun
  | [d] => { results := [.lit (.bool true)], args := [d] }
  | _ => none }
def fnExactCountTrianglesRow : OpenClaim := { program := "ytelpibdbnjmliaa", sum := "9b143da4cdb9be7ca785b7c23045a27f79de9de65ca45a73858125f6446c017a", func := "loop.example/g03304/laws.FnExactCountTriangles", spec := "fnExactCountTriangles", apart := false }
def FnExactCountTrianglesSaid : Prop := fnExactCountTrianglesRow.holds Try.pinned (OpenSpec.ofChange fnExactCountTrianglesSpec)

/-- ITS FALSE NEIGHBOUR: 'it returns false'. Refute it at one input. -/
def fnExactCountTrianglesWrong : ChangeSpec := { name := "fnExactCountTriangles", fn := fun _ => fun
  | [d] => { results := [.lit (.bool false)], args := [d] }
  | _ => none }
def FnExactCountTrianglesWrongFalsely : Prop := fnExactCountTrianglesRow.holds Try.pinned (OpenSpec.ofChange fnExactCountTrianglesWrong)

/- THE SECOND FORM. 'bulk': how many values and letters a reading holds, each counted each time it is reached (what is shared counts as often as it is met; a slice's spare places count too). A statement '..UptoSaid' is the law's where the arguments, and the package variables that the reading takes, are together of bulk at most 1048576: NARROWER than '..Said'. Prove '..Said' where nothing that the law and all that it calls make is longer than what came in: it says more and counts as full. Else prove '..UptoSaid'. A law counts once. -/
mutual
def uptoBulk {H : Type} : DataW H → Nat
  | .lit (.string bytes) => bytes.length + 1
  | .lit _ => 1
  | .nil => 1
  | .ptr d => uptoBulk d + 1
  | .slice elems spare => uptoBulkAll elems + uptoBulkAll spare + 1
  | .agg parts => uptoBulkAll parts + 1
  | .iface _ d => uptoBulk d + 1
  | .map entries => uptoBulkEntries entries + 1
  | .held _ => 1
def uptoBulkAll {H : Type} : List (DataW H) → Nat
  | [] => 0
  | d :: r => uptoBulk d + uptoBulkAll r
def uptoBulkEntries {H : Type} : List (Lit × DataW H) → Nat
  | [] => 0
  | x :: r => uptoBulkEntry x + uptoBulkEntries r
def uptoBulkEntry {H : Type} : Lit × DataW H → Nat
  | (.string bytes, d) => bytes.length + uptoBulk d + 1
  | (_, d) => uptoBulk d + 1
 end
def uptoSmall : (H : Type) → List (DataW H) → Bool := fun _ ds => decide (uptoBulkAll ds ≤ 1048576)
def OpenSpec.upto (s : _root_.Go.ChangeSpec) : _root_.Go.OpenSpec := { _root_.Go.OpenSpec.ofChange s with cond := some uptoSmall }

/-- 'laws.FnAreas', WHERE WHAT IT READS IS OF BULK AT MOST 1048576: true; the input reads as it did. -/
def fnAreasUptoRow : OpenClaim := { program := "ytelpibdbnjmliaa", sum := "9b143da4cdb9be7ca785b7c23045a27f79de9de65ca45a73858125f6446c017a", func := "loop.example/g03304/laws.FnAreas", spec := "fnAreas", apart := false, narrowed := true }
def FnAreasUptoSaid : Prop := fnAreasUptoRow.holds Try.pinned (OpenSpec.upto fnAreasSpec)

/-- 'laws.FnExactCellArea', WHERE WHAT IT READS IS OF BULK AT MOST 1048576: true; the input reads as it did. -/
def fnExactCellAreaUptoRow : OpenClaim := { program := "ytelpibdbnjmliaa", sum := "9b143da4cdb9be7ca785b7c23045a27f79de9de65ca45a73858125f6446c017a", func := "loop.example/g03304/laws.FnExactCellArea", spec := "fnExactCellArea", apart := false, narrowed := true }
def FnExactCellAreaUptoSaid : Prop := fnExactCellAreaUptoRow.holds Try.pinned (OpenSpec.upto fnExactCellAreaSpec)

/-- 'laws.FnExactAreaOf', WHERE WHAT IT READS IS OF BULK AT MOST 1048576: true; the input reads as it did. -/
def fnExactAreaOfUptoRow : OpenClaim := { program := "ytelpibdbnjmliaa", sum := "9b143da4cdb9be7ca785b7c23045a27f79de9de65ca45a73858125f6446c017a", func := "loop.example/g03304/laws.FnExactAreaOf", spec := "fnExactAreaOf", apart := false, narrowed := true }
def FnExactAreaOfUptoSaid : Prop := fnExactAreaOfUptoRow.holds Try.pinned (OpenSpec.upto fnExactAreaOfSpec)

/-- 'laws.FnExactAreaTable', WHERE WHAT IT READS IS OF BULK AT MOST 1048576: true; the input reads as it did. -/
def fnExactAreaTableUptoRow : OpenClaim := { program := "ytelpibdbnjmliaa", sum := "9b143da4cdb9be7ca785b7c23045a27f79de9de65ca45a73858125f6446c017a", func := "loop.example/g03304/laws.FnExactAreaTable", spec := "fnExactAreaTable", apart := false, narrowed := true }
def FnExactAreaTableUptoSaid : Prop := fnExactAreaTableUptoRow.holds Try.pinned (OpenSpec.upto fnExactAreaTableSpec)

/-- 'laws.FnExactMainColor', WHERE WHAT IT READS IS OF BULK AT MOST 1048576: true; the input reads as it did. -/
def fnExactMainColorUptoRow : OpenClaim := { program := "ytelpibdbnjmliaa", sum := "9b143da4cdb9be7ca785b7c23045a27f79de9de65ca45a73858125f6446c017a", func := "loop.example/g03304/laws.FnExactMainColor", spec := "fnExactMainColor", apart := false, narrowed := true }
def FnExactMainColorUptoSaid : Prop := fnExactMainColorUptoRow.holds Try.pinned (OpenSpec.upto fnExactMainColorSpec)

/-- 'laws.FnExactIsBalanced', WHERE WHAT IT READS IS OF BULK AT MOST 1048576: true; the input reads as it did. -/
def fnExactIsBalancedUptoRow : OpenClaim := { program := "ytelpibdbnjmliaa", sum := "9b143da4cdb9be7ca785b7c23045a27f79de9de65ca45a73858125f6446c017a", func := "loop.example/g03304/laws.FnExactIsBalanced", spec := "fnExactIsBalanced", apart := false, narrowed := true }
def FnExactIsBalancedUptoSaid : Prop := fnExactIsBalancedUptoRow.holds Try.pinned (OpenSpec.upto fnExactIsBalancedSpec)

/-- 'laws.FnExactCountTriangles', WHERE WHAT IT READS IS OF BULK AT MOST 1048576: true; the input reads as it did. -/
def fnExactCountTrianglesUptoRow : OpenClaim := { program := "ytelpibdbnjmliaa", sum := "9b143da4cdb9be7ca785b7c23045a27f79de9de65ca45a73858125f6446c017a", func := "loop.example/g03304/laws.FnExactCountTriangles", spec := "fnExactCountTriangles", apart := false, narrowed := true }
def FnExactCountTrianglesUptoSaid : Prop := fnExactCountTrianglesUptoRow.holds Try.pinned (OpenSpec.upto fnExactCountTrianglesSpec)

end Rows
end Go.Proofs.Ytelpibdbnjmliaa
