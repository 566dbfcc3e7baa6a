/-
  No cell of these rows narrows 'for every input' (looked for: loops, veiled, ifaces, maps, wideKeys, modest, calm, conditions, laid).
  DERIVED. THE GIVEN ROWS OF THIS SEAT. 7 by the template 'for every input the law returns true; each argument reads behind the call as it read before'; 0 by the template 'total and deterministic' (their statements: YtakjgnkkeefgbaaTotals.lean).
  GIVEN WITH THE SEED: the statements are not yours to turn. If you find one false, say at which input.
  Laid BY PROGRAM, IN A SANDBOX (cutbox-rows.mjs): the forced cells as the released guide's own fill.sh prints them over the translation b7126fb77424a87f… (all of the seat's roots in one cut). By AI agents, Wed Nov 11 2026. No macro, syntax, notation, axiom, sorry.
-/
import Derived.Test.YtakjgnkkeefgbaaChecked
import GoSem.Claim
import GoSem.ClaimJoined
import GoSem.ClaimMapViews
import Derived.JoinedTies
import Derived.KernelRfl
namespace Go.Proofs.Ytakjgnkkeefgbaa
/- THE CELL 'sum', in the pinned program and in every row, IS THE sha256 OF THE DUMP (.gsa) THAT YtakjgnkkeefgbaaProg.lean LOADS. Nothing in Lean hashes anything: it is a label: what it is worth is what the hold of that sum in a sandbox is worth. -/
noncomputable def Try.pinned : Pinned := { name := "ytakjgnkkeefgbaa", sum := "b7126fb77424a87f048fec7e677dde9232a5ed1013df8f6e22ac7a3253dd1e50", checked := Try.checked }
namespace Rows
def none {H : Type} : Left H := { results := [], args := [] }

/-- 'laws.FnCuts': WHATEVER THE INPUT: true; the input reads as it did. -/
def fnCutsSpec : ChangeSpec := { name := "fnCuts", fn := fun _ => fun
  | [d] => { results := [.lit (.bool true)], args := [d] }
  | _ => none }
def fnCutsRow : OpenClaim := { program := "ytakjgnkkeefgbaa", sum := "b7126fb77424a87f048fec7e677dde9232a5ed1013df8f6e22ac7a3253dd1e50", func := "loop.example/g03304/laws.FnCuts", spec := "fnCuts", recurses := true, apart := false }
def FnCutsSaid : Prop := fnCutsRow.holds Try.pinned (OpenSpec.ofChange fnCutsSpec)

/-- ITS FALSE NEIGHBOUR: 'it returns false'. Refute it at one input. -/
def fnCutsWrong : ChangeSpec := { name := "fnCuts", fn := fun _ => fun
  | [d] => { results := [.lit (.bool false)], args := [d] }
  | _ => none }
def FnCutsWrongFalsely : Prop := fnCutsRow.holds Try.pinned (OpenSpec.ofChange fnCutsWrong)

/-- 'laws.FnExactIsCut': WHATEVER THE INPUT: true; the input reads as it did. -/
def fnExactIsCutSpec : ChangeSpec := { name := "fnExactIsCut", fn := fun _ => fun
  | [d1, d2] => { results := [.lit (.bool true)], args := [d1, d2] }
  | _ => none }
def fnExactIsCutRow : OpenClaim := { program := "ytakjgnkkeefgbaa", sum := "b7126fb77424a87f048fec7e677dde9232a5ed1013df8f6e22ac7a3253dd1e50", func := "loop.example/g03304/laws.FnExactIsCut", spec := "fnExactIsCut", apart := false }
def FnExactIsCutSaid : Prop := fnExactIsCutRow.holds Try.pinned (OpenSpec.ofChange fnExactIsCutSpec)

/-- ITS FALSE NEIGHBOUR: 'it returns false'. Refute it at one input. -/
def fnExactIsCutWrong : ChangeSpec := { name := "fnExactIsCut", fn := fun _ => fun
  | [d1, d2] => { results := [.lit (.bool false)], args := [d1, d2] }
  | _ => none }
def FnExactIsCutWrongFalsely : Prop := fnExactIsCutRow.holds Try.pinned (OpenSpec.ofChange fnExactIsCutWrong)

/-- 'laws.FnExactCutsOf': WHATEVER THE INPUT: true; the input reads as it did. -/
def fnExactCutsOfSpec : ChangeSpec := { name := "fnExactCutsOf", fn := fun _ => fun
  | [d] => { results := [.lit (.bool true)], args := [d] }
  | _ => none }
def fnExactCutsOfRow : OpenClaim := { program := "ytakjgnkkeefgbaa", sum := "b7126fb77424a87f048fec7e677dde9232a5ed1013df8f6e22ac7a3253dd1e50", func := "loop.example/g03304/laws.FnExactCutsOf", spec := "fnExactCutsOf", apart := false }
def FnExactCutsOfSaid : Prop := fnExactCutsOfRow.holds Try.pinned (OpenSpec.ofChange fnExactCutsOfSpec)

/-- ITS FALSE NEIGHBOUR: 'it returns false'. Refute it at one input. -/
def fnExactCutsOfWrong : ChangeSpec := { name := "fnExactCutsOf", fn := fun _ => fun
  | [d] => { results := [.lit (.bool false)], args := [d] }
  | _ => none }
def FnExactCutsOfWrongFalsely : Prop := fnExactCutsOfRow.holds Try.pinned (OpenSpec.ofChange fnExactCutsOfWrong)

/-- 'laws.FnExactSplitLayout': WHATEVER THE INPUT: true; the input reads as it did. -/
def fnExactSplitLayoutSpec : ChangeSpec := { name := "fnExactSplitLayout", fn := fun _ => fun
  | [d1, d2] => { results := [.lit (.bool true)], args := [d1, d2] }
  | _ => none }
def fnExactSplitLayoutRow : OpenClaim := { program := "ytakjgnkkeefgbaa", sum := "b7126fb77424a87f048fec7e677dde9232a5ed1013df8f6e22ac7a3253dd1e50", func := "loop.example/g03304/laws.FnExactSplitLayout", spec := "fnExactSplitLayout", apart := false }
def FnExactSplitLayoutSaid : Prop := fnExactSplitLayoutRow.holds Try.pinned (OpenSpec.ofChange fnExactSplitLayoutSpec)

/-- ITS FALSE NEIGHBOUR: 'it returns false'. Refute it at one input. -/
def fnExactSplitLayoutWrong : ChangeSpec := { name := "fnExactSplitLayout", fn := fun _ => fun
  | [d1, d2] => { results := [.lit (.bool false)], args := [d1, d2] }
  | _ => none }
def FnExactSplitLayoutWrongFalsely : Prop := fnExactSplitLayoutRow.holds Try.pinned (OpenSpec.ofChange fnExactSplitLayoutWrong)

/-- 'laws.FnExactCanSew': WHATEVER THE INPUT: true; the input reads as it did. -/
def fnExactCanSewSpec : ChangeSpec := { name := "fnExactCanSew", fn := fun _ => fun
  | [d] => { results := [.lit (.bool true)], args := [d] }
  | _ => none }
def fnExactCanSewRow : OpenClaim := { program := "ytakjgnkkeefgbaa", sum := "b7126fb77424a87f048fec7e677dde9232a5ed1013df8f6e22ac7a3253dd1e50", func := "loop.example/g03304/laws.FnExactCanSew", spec := "fnExactCanSew", recurses := true, apart := false }
def FnExactCanSewSaid : Prop := fnExactCanSewRow.holds Try.pinned (OpenSpec.ofChange fnExactCanSewSpec)

/-- ITS FALSE NEIGHBOUR: 'it returns false'. Refute it at one input. -/
def fnExactCanSewWrong : ChangeSpec := { name := "fnExactCanSew", fn := fun _ => fun
  | [d] => { results := [.lit (.bool false)], args := [d] }
  | _ => none }
def FnExactCanSewWrongFalsely : Prop := fnExactCanSewRow.holds Try.pinned (OpenSpec.ofChange fnExactCanSewWrong)

/-- 'laws.FnExactCountSeams': WHATEVER THE INPUT: true; the input reads as it did. -/
def fnExactCountSeamsSpec : ChangeSpec := { name := "fnExactCountSeams", fn := fun _ => fun
  | [d] => { results := [.lit (.bool true)], args := [d] }
  | _ => none }
def fnExactCountSeamsRow : OpenClaim := { program := "ytakjgnkkeefgbaa", sum := "b7126fb77424a87f048fec7e677dde9232a5ed1013df8f6e22ac7a3253dd1e50", func := "loop.example/g03304/laws.FnExactCountSeams", spec := "fnExactCountSeams", recurses := true, apart := false }
def FnExactCountSeamsSaid : Prop := fnExactCountSeamsRow.holds Try.pinned (OpenSpec.ofChange fnExactCountSeamsSpec)

/-- ITS FALSE NEIGHBOUR: 'it returns false'. Refute it at one input. -/
def fnExactCountSeamsWrong : ChangeSpec := { name := "fnExactCountSeams", fn := fun _ => fun
  | [d] => { results := [.lit (.bool false)], args := [d] }
  | _ => none }
def FnExactCountSeamsWrongFalsely : Prop := fnExactCountSeamsRow.holds Try.pinned (OpenSpec.ofChange fnExactCountSeamsWrong)

/-- 'laws.FnExactFirstKnot': WHATEVER THE INPUT: true; the input reads as it did. -/
def fnExactFirstKnotSpec : ChangeSpec := { name := "fnExactFirstKnot", fn := fun _ => fun
  | [d] => { results := [.lit (.bool true)], args := [d] }
  | _ => none }
def fnExactFirstKnotRow : OpenClaim := { program := "ytakjgnkkeefgbaa", sum := "b7126fb77424a87f048fec7e677dde9232a5ed1013df8f6e22ac7a3253dd1e50", func := "loop.example/g03304/laws.FnExactFirstKnot", spec := "fnExactFirstKnot", recurses := true, apart := false }
def FnExactFirstKnotSaid : Prop := fnExactFirstKnotRow.holds Try.pinned (OpenSpec.ofChange fnExactFirstKnotSpec)

/-- ITS FALSE NEIGHBOUR: 'it returns false'. Refute it at one input. -/
def fnExactFirstKnotWrong : ChangeSpec := { name := "fnExactFirstKnot", fn := fun _ => fun
  | [d] => { results := [.lit (.bool false)], args := [d] }
  | _ => none }
def FnExactFirstKnotWrongFalsely : Prop := fnExactFirstKnotRow.holds Try.pinned (OpenSpec.ofChange fnExactFirstKnotWrong)

/- THE SECOND FORM. 'bulk': how many values and letters a reading holds, each counted each time it is reached (what is shared counts as often as it is met; a slice's spare places count too). A statement '..UptoSaid' is the law's where the arguments, and the package variables that the reading takes, are together of bulk at most 1048576: NARROWER than '..Said'. Prove '..Said' where nothing that the law and all that it calls make is longer than what came in: it says more and counts as full. Else prove '..UptoSaid'. A law counts once. -/
mutual
def uptoBulk {H : Type} : DataW H → Nat
  | .lit (.string bytes) => bytes.length + 1
  | .lit _ => 1
  | .nil => 1
  | .ptr d => uptoBulk d + 1
  | .slice elems spare => uptoBulkAll elems + uptoBulkAll spare + 1
  | .agg parts => uptoBulkAll parts + 1
  | .iface _ d => uptoBulk d + 1
  | .map entries => uptoBulkEntries entries + 1
  | .held _ => 1
def uptoBulkAll {H : Type} : List (DataW H) → Nat
  | [] => 0
  | d :: r => uptoBulk d + uptoBulkAll r
def uptoBulkEntries {H : Type} : List (Lit × DataW H) → Nat
  | [] => 0
  | x :: r => uptoBulkEntry x + uptoBulkEntries r
def uptoBulkEntry {H : Type} : Lit × DataW H → Nat
  | (.string bytes, d) => bytes.length + uptoBulk d + 1
  | (_, d) => uptoBulk d + 1
 end
def uptoSmall : (H : Type) → List (DataW H) → Bool := fun _ ds => decide (uptoBulkAll ds ≤ 1048576)
def OpenSpec.upto (s : _root_.Go.ChangeSpec) : _root_.Go.OpenSpec := { _root_.Go.OpenSpec.ofChange s with cond := some uptoSmall }

/-- 'laws.FnCuts', WHERE WHAT IT READS IS OF BULK AT MOST 1048576: true; the input reads as it did. -/
def fnCutsUptoRow : OpenClaim := { program := "ytakjgnkkeefgbaa", sum := "b7126fb77424a87f048fec7e677dde9232a5ed1013df8f6e22ac7a3253dd1e50", func := "loop.example/g03304/laws.FnCuts", spec := "fnCuts", recurses := true, apart := false, narrowed := true }
def FnCutsUptoSaid : Prop := fnCutsUptoRow.holds Try.pinned (OpenSpec.upto fnCutsSpec)

/-- 'laws.FnExactIsCut', WHERE WHAT IT READS IS OF BULK AT MOST 1048576: true; the input reads as it did. -/
def fnExactIsCutUptoRow : OpenClaim := { program := "ytakjgnkkeefgbaa", sum := "b7126fb77424a87f048fec7e677dde9232a5ed1013df8f6e22ac7a3253dd1e50", func := "loop.example/g03304/laws.FnExactIsCut", spec := "fnExactIsCut", apart := false, narrowed := true }
def FnExactIsCutUptoSaid : Prop := fnExactIsCutUptoRow.holds Try.pinned (OpenSpec.upto fnExactIsCutSpec)

/-- 'laws.FnExactCutsOf', WHERE WHAT IT READS IS OF BULK AT MOST 1048576: true; the input reads as it did. -/
def fnExactCutsOfUptoRow : OpenClaim := { program := "ytakjgnkkeefgbaa", sum := "b7126fb77424a87f048fec7e677dde9232a5ed1013df8f6e22ac7a3253dd1e50", func := "loop.example/g03304/laws.FnExactCutsOf", spec := "fnExactCutsOf", apart := false, narrowed := true }
def FnExactCutsOfUptoSaid : Prop := fnExactCutsOfUptoRow.holds Try.pinned (OpenSpec.upto fnExactCutsOfSpec)

/-- 'laws.FnExactSplitLayout', WHERE WHAT IT READS IS OF BULK AT MOST 1048576: true; the input reads as it did. -/
def fnExactSplitLayoutUptoRow : OpenClaim := { program := "ytakjgnkkeefgbaa", sum := "b7126fb77424a87f048fec7e677dde9232a5ed1013df8f6e22ac7a3253dd1e50", func := "loop.example/g03304/laws.FnExactSplitLayout", spec := "fnExactSplitLayout", apart := false, narrowed := true }
def FnExactSplitLayoutUptoSaid : Prop := fnExactSplitLayoutUptoRow.holds Try.pinned (OpenSpec.upto fnExactSplitLayoutSpec)

/-- 'laws.FnExactCanSew', WHERE WHAT IT READS IS OF BULK AT MOST 1048576: true; the input reads as it did. -/
def fnExactCanSewUptoRow : OpenClaim := { program := "ytakjgnkkeefgbaa", sum := "b7126fb77424a87f048fec7e677dde9232a5ed1013df8f6e22ac7a3253dd1e50", func := "loop.example/g03304/laws.FnExactCanSew", spec := "fnExactCanSew", recurses := true, apart := false, narrowed := true }
def FnExactCanSewUptoSaid : Prop := fnExactCanSewUptoRow.holds Try.pinned (OpenSpec.upto fnExactCanSewSpec)

/-- 'laws.FnExactCountSeams', WHERE WHAT IT READS IS OF BULK AT MOST 1048576: true; the input reads as it did. -/
def fnExactCountSeamsUptoRow : OpenClaim := { program := "ytakjgnkkeefgbaa", sum := "b7126fb77424a87f048fec7e677dde9232a5ed1013df8f6e22ac7a3253dd1e50", func := "loop.example/g03304/laws.FnExactCountSeams", spec := "fnExactCountSeams", recurses := true, apart := false, narrowed := true }
def FnExactCountSeamsUptoSaid : Prop := fnExactCountSeamsUptoRow.holds Try.pinned (OpenSpec.upto fnExactCountSeamsSpec)

/-- 'laws.FnExactFirstKnot', WHERE WHAT IT READS IS OF BULK AT MOST 1048576: true; the input reads as it did. -/
def fnExactFirstKnotUptoRow : OpenClaim := { program := "ytakjgnkkeefgbaa", sum := "b7126fb77424a87f048fec7e677dde9232a5ed1013df8f6e22ac7a3253dd1e50", func := "loop.example/g03304/laws.FnExactFirstKnot", spec := "fnExactFirstKnot", recurses := true, apart := false, narrowed := true }
def FnExactFirstKnotUptoSaid : Prop := fnExactFirstKnotUptoRow.holds Try.pinned (OpenSpec.upto fnExactFirstKnotSpec)

end Rows
end Go.Proofs.Ytakjgnkkeefgbaa
