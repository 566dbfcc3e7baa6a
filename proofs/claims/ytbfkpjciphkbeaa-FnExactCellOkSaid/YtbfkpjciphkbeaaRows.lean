/-
  No cell of these rows narrows 'for every input' (looked for: loops, veiled, ifaces, maps, wideKeys, modest, calm, conditions, laid).
  DERIVED. THE GIVEN ROWS OF THIS SEAT. 4 by the template 'for every input the law returns true; each argument reads behind the call as it read before'; 0 by the template 'total and deterministic' (their statements: YtbfkpjciphkbeaaTotals.lean).
  GIVEN WITH THE SEED: the statements are not yours to turn. If you find one false, say at which input.
  Laid BY PROGRAM, IN A SANDBOX (cutbox-rows.mjs): the forced cells as the released guide's own fill.sh prints them over the translation b648499b67787204… (all of the seat's roots in one cut). By AI agents, Wed Nov 11 2026. No macro, syntax, notation, axiom, sorry.
-/
import Derived.Test.YtbfkpjciphkbeaaChecked
import GoSem.Claim
import GoSem.ClaimJoined
import GoSem.ClaimMapViews
import Derived.JoinedTies
import Derived.KernelRfl
namespace Go.Proofs.Ytbfkpjciphkbeaa
/- THE CELL 'sum', in the pinned program and in every row, IS THE sha256 OF THE DUMP (.gsa) THAT YtbfkpjciphkbeaaProg.lean LOADS. Nothing in Lean hashes anything: it is a label: what it is worth is what the hold of that sum in a sandbox is worth. -/
noncomputable def Try.pinned : Pinned := { name := "ytbfkpjciphkbeaa", sum := "b648499b677872041127b9561ee536fca2f1a9ceec996a8b830ebe4f6d92c1ff", checked := Try.checked }
namespace Rows
def none {H : Type} : Left H := { results := [], args := [] }

/-- 'laws.FnExactCellOk': WHATEVER THE INPUT: true; the input reads as it did. -/
def fnExactCellOkSpec : ChangeSpec := { name := "fnExactCellOk", fn := fun _ => fun
  | [d] => { results := [.lit (.bool true)], args := [d] }
  | _ => none }
def fnExactCellOkRow : OpenClaim := { program := "ytbfkpjciphkbeaa", sum := "b648499b677872041127b9561ee536fca2f1a9ceec996a8b830ebe4f6d92c1ff", func := "loop.example/g03304/laws.FnExactCellOk", spec := "fnExactCellOk", apart := false }
def FnExactCellOkSaid : Prop := fnExactCellOkRow.holds Try.pinned (OpenSpec.ofChange fnExactCellOkSpec)

/-- ITS FALSE NEIGHBOUR: 'it returns false'. Refute it at one input. -/
def fnExactCellOkWrong : ChangeSpec := { name := "fnExactCellOk", fn := fun _ => fun
  | [d] => { results := [.lit (.bool false)], args := [d] }
  | _ => none }
def FnExactCellOkWrongFalsely : Prop := fnExactCellOkRow.holds Try.pinned (OpenSpec.ofChange fnExactCellOkWrong)

/-- 'laws.FnExactWholeCell': WHATEVER THE INPUT: true; the input reads as it did. -/
def fnExactWholeCellSpec : ChangeSpec := { name := "fnExactWholeCell", fn := fun _ => fun
  | [d] => { results := [.lit (.bool true)], args := [d] }
  | _ => none }
def fnExactWholeCellRow : OpenClaim := { program := "ytbfkpjciphkbeaa", sum := "b648499b677872041127b9561ee536fca2f1a9ceec996a8b830ebe4f6d92c1ff", func := "loop.example/g03304/laws.FnExactWholeCell", spec := "fnExactWholeCell", apart := false }
def FnExactWholeCellSaid : Prop := fnExactWholeCellRow.holds Try.pinned (OpenSpec.ofChange fnExactWholeCellSpec)

/-- ITS FALSE NEIGHBOUR: 'it returns false'. Refute it at one input. -/
def fnExactWholeCellWrong : ChangeSpec := { name := "fnExactWholeCell", fn := fun _ => fun
  | [d] => { results := [.lit (.bool false)], args := [d] }
  | _ => none }
def FnExactWholeCellWrongFalsely : Prop := fnExactWholeCellRow.holds Try.pinned (OpenSpec.ofChange fnExactWholeCellWrong)

/-- 'laws.FnExactSplitCell': WHATEVER THE INPUT: true; the input reads as it did. -/
def fnExactSplitCellSpec : ChangeSpec := { name := "fnExactSplitCell", fn := fun _ => fun
  | [d1, d2, d3] => { results := [.lit (.bool true)], args := [d1, d2, d3] }
  | _ => none }
def fnExactSplitCellRow : OpenClaim := { program := "ytbfkpjciphkbeaa", sum := "b648499b677872041127b9561ee536fca2f1a9ceec996a8b830ebe4f6d92c1ff", func := "loop.example/g03304/laws.FnExactSplitCell", spec := "fnExactSplitCell", apart := false }
def FnExactSplitCellSaid : Prop := fnExactSplitCellRow.holds Try.pinned (OpenSpec.ofChange fnExactSplitCellSpec)

/-- ITS FALSE NEIGHBOUR: 'it returns false'. Refute it at one input. -/
def fnExactSplitCellWrong : ChangeSpec := { name := "fnExactSplitCell", fn := fun _ => fun
  | [d1, d2, d3] => { results := [.lit (.bool false)], args := [d1, d2, d3] }
  | _ => none }
def FnExactSplitCellWrongFalsely : Prop := fnExactSplitCellRow.holds Try.pinned (OpenSpec.ofChange fnExactSplitCellWrong)

/-- 'laws.FnExactColorAt': WHATEVER THE INPUT: true; the input reads as it did. -/
def fnExactColorAtSpec : ChangeSpec := { name := "fnExactColorAt", fn := fun _ => fun
  | [d1, d2] => { results := [.lit (.bool true)], args := [d1, d2] }
  | _ => none }
def fnExactColorAtRow : OpenClaim := { program := "ytbfkpjciphkbeaa", sum := "b648499b677872041127b9561ee536fca2f1a9ceec996a8b830ebe4f6d92c1ff", func := "loop.example/g03304/laws.FnExactColorAt", spec := "fnExactColorAt", apart := false }
def FnExactColorAtSaid : Prop := fnExactColorAtRow.holds Try.pinned (OpenSpec.ofChange fnExactColorAtSpec)

/-- ITS FALSE NEIGHBOUR: 'it returns false'. Refute it at one input. -/
def fnExactColorAtWrong : ChangeSpec := { name := "fnExactColorAt", fn := fun _ => fun
  | [d1, d2] => { results := [.lit (.bool false)], args := [d1, d2] }
  | _ => none }
def FnExactColorAtWrongFalsely : Prop := fnExactColorAtRow.holds Try.pinned (OpenSpec.ofChange fnExactColorAtWrong)

/- THE SECOND FORM. 'bulk': how many values and letters a reading holds, each counted each time it is reached (what is shared counts as often as it is met; a slice's spare places count too). A statement '..UptoSaid' is the law's where the arguments, and the package variables that the reading takes, are together of bulk at most 1048576: NARROWER than '..Said'. Prove '..Said' where nothing that the law and all that it calls make is longer than what came in: it says more and counts as full. Else prove '..UptoSaid'. A law counts once. -/
mutual
def uptoBulk {H : Type} : DataW H → Nat
  | .lit (.string bytes) => bytes.length + 1
  | .lit _ => 1
  | .nil => 1
  | .ptr d => uptoBulk d + 1
  | .slice elems spare => uptoBulkAll elems + uptoBulkAll spare + 1
  | .agg parts => uptoBulkAll parts + 1
  | .iface _ d => uptoBulk d + 1
  | .map entries => uptoBulkEntries entries + 1
  | .held _ => 1
def uptoBulkAll {H : Type} : List (DataW H) → Nat
  | [] => 0
  | d :: r => uptoBulk d + uptoBulkAll r
def uptoBulkEntries {H : Type} : List (Lit × DataW H) → Nat
  | [] => 0
  | x :: r => uptoBulkEntry x + uptoBulkEntries r
def uptoBulkEntry {H : Type} : Lit × DataW H → Nat
  | (.string bytes, d) => bytes.length + uptoBulk d + 1
  | (_, d) => uptoBulk d + 1
 end
def uptoSmall : (H : Type) → List (DataW H) → Bool := fun _ ds => decide (uptoBulkAll ds ≤ 1048576)
def OpenSpec.upto (s : _root_.Go.ChangeSpec) : _root_.Go.OpenSpec := { _root_.Go.OpenSpec.ofChange s with cond := some uptoSmall }

/-- 'laws.FnExactCellOk', WHERE WHAT IT READS IS OF BULK AT MOST 1048576: true; the input reads as it did. -/
def fnExactCellOkUptoRow : OpenClaim := { program := "ytbfkpjciphkbeaa", sum := "b648499b677872041127b9561ee536fca2f1a9ceec996a8b830ebe4f6d92c1ff", func := "loop.example/g03304/laws.FnExactCellOk", spec := "fnExactCellOk", apart := false, narrowed := true }
def FnExactCellOkUptoSaid : Prop := fnExactCellOkUptoRow.holds Try.pinned (OpenSpec.upto fnExactCellOkSpec)

/-- 'laws.FnExactWholeCell', WHERE WHAT IT READS IS OF BULK AT MOST 1048576: true; the input reads as it did. -/
def fnExactWholeCellUptoRow : OpenClaim := { program := "ytbfkpjciphkbeaa", sum := "b648499b677872041127b9561ee536fca2f1a9ceec996a8b830ebe4f6d92c1ff", func := "loop.example/g03304/laws.FnExactWholeCell", spec := "fnExactWholeCell", apart := false, narrowed := true }
def FnExactWholeCellUptoSaid : Prop := fnExactWholeCellUptoRow.holds Try.pinned (OpenSpec.upto fnExactWholeCellSpec)

/-- 'laws.FnExactSplitCell', WHERE WHAT IT READS IS OF BULK AT MOST 1048576: true; the input reads as it did. -/
def fnExactSplitCellUptoRow : OpenClaim := { program := "ytbfkpjciphkbeaa", sum := "b648499b677872041127b9561ee536fca2f1a9ceec996a8b830ebe4f6d92c1ff", func := "loop.example/g03304/laws.FnExactSplitCell", spec := "fnExactSplitCell", apart := false, narrowed := true }
def FnExactSplitCellUptoSaid : Prop := fnExactSplitCellUptoRow.holds Try.pinned (OpenSpec.upto fnExactSplitCellSpec)

/-- 'laws.FnExactColorAt', WHERE WHAT IT READS IS OF BULK AT MOST 1048576: true; the input reads as it did. -/
def fnExactColorAtUptoRow : OpenClaim := { program := "ytbfkpjciphkbeaa", sum := "b648499b677872041127b9561ee536fca2f1a9ceec996a8b830ebe4f6d92c1ff", func := "loop.example/g03304/laws.FnExactColorAt", spec := "fnExactColorAt", apart := false, narrowed := true }
def FnExactColorAtUptoSaid : Prop := fnExactColorAtUptoRow.holds Try.pinned (OpenSpec.upto fnExactColorAtSpec)

end Rows
end Go.Proofs.Ytbfkpjciphkbeaa
