/-
  No cell of these rows narrows 'for every input' (looked for: loops, veiled, ifaces, maps, wideKeys, modest, calm, conditions, laid).
  DERIVED. THE GIVEN ROWS OF THIS SEAT. 8 by the template 'for every input the law returns true; each argument reads behind the call as it read before'; 0 by the template 'total and deterministic' (their statements: YtoljnokfhgopoaaTotals.lean).
  GIVEN WITH THE SEED: the statements are not yours to turn. If you find one false, say at which input.
  Laid BY PROGRAM, IN A SANDBOX (cutbox-rows.mjs): the forced cells as the released guide's own fill.sh prints them over the translation 2a18002dd29b64c7… (all of the seat's roots in one cut). By AI agents, Wed Nov 11 2026. No macro, syntax, notation, axiom, sorry.
-/
import Derived.Test.YtoljnokfhgopoaaChecked
import GoSem.Claim
import GoSem.ClaimJoined
import GoSem.ClaimMapViews
import Derived.JoinedTies
import Derived.KernelRfl
namespace Go.Proofs.Ytoljnokfhgopoaa
/- THE CELL 'sum', in the pinned program and in every row, IS THE sha256 OF THE DUMP (.gsa) THAT YtoljnokfhgopoaaProg.lean LOADS. Nothing in Lean hashes anything: it is a label: what it is worth is what the hold of that sum in a sandbox is worth. -/
noncomputable def Try.pinned : Pinned := { name := "ytoljnokfhgopoaa", sum := "2a18002dd29b64c72b3a93858c3a41ca4634641d94f8b3ef81ec8169e3a5e446", checked := Try.checked }
namespace Rows
def none {H : Type} : Left H := { results := [], args := [] }

/-- 'laws.FnBlocks': WHATEVER THE INPUT: true; the input reads as it did. -/
def fnBlocksSpec : ChangeSpec := { name := "fnBlocks", fn := fun _ => fun
  | [d] => { results := [.lit (.bool true)], args := [d] }
  | _ => none }
def fnBlocksRow : OpenClaim := { program := "ytoljnokfhgopoaa", sum := "2a18002dd29b64c72b3a93858c3a41ca4634641d94f8b3ef81ec8169e3a5e446", func := "loop.example/g03304/laws.FnBlocks", spec := "fnBlocks", apart := false }
def FnBlocksSaid : Prop := fnBlocksRow.holds Try.pinned (OpenSpec.ofChange fnBlocksSpec)

/-- ITS FALSE NEIGHBOUR: 'it returns false'. Refute it at one input. -/
def fnBlocksWrong : ChangeSpec := { name := "fnBlocks", fn := fun _ => fun
  | [d] => { results := [.lit (.bool false)], args := [d] }
  | _ => none }
def FnBlocksWrongFalsely : Prop := fnBlocksRow.holds Try.pinned (OpenSpec.ofChange fnBlocksWrong)

/-- 'laws.FnExactBlockOk': WHATEVER THE INPUT: true; the input reads as it did. -/
def fnExactBlockOkSpec : ChangeSpec := { name := "fnExactBlockOk", fn := fun _ => fun
  | [d] => { results := [.lit (.bool true)], args := [d] }
  | _ => none }
def fnExactBlockOkRow : OpenClaim := { program := "ytoljnokfhgopoaa", sum := "2a18002dd29b64c72b3a93858c3a41ca4634641d94f8b3ef81ec8169e3a5e446", func := "loop.example/g03304/laws.FnExactBlockOk", spec := "fnExactBlockOk", apart := false }
def FnExactBlockOkSaid : Prop := fnExactBlockOkRow.holds Try.pinned (OpenSpec.ofChange fnExactBlockOkSpec)

/-- ITS FALSE NEIGHBOUR: 'it returns false'. Refute it at one input. -/
def fnExactBlockOkWrong : ChangeSpec := { name := "fnExactBlockOk", fn := fun _ => fun
  | [d] => { results := [.lit (.bool false)], args := [d] }
  | _ => none }
def FnExactBlockOkWrongFalsely : Prop := fnExactBlockOkRow.holds Try.pinned (OpenSpec.ofChange fnExactBlockOkWrong)

/-- 'laws.FnExactCellAt': WHATEVER THE INPUT: true; the input reads as it did. -/
def fnExactCellAtSpec : ChangeSpec := { name := "fnExactCellAt", fn := fun _ => fun
  | [d1, d2, d3] => { results := [.lit (.bool true)], args := [d1, d2, d3] }
  | _ => none }
def fnExactCellAtRow : OpenClaim := { program := "ytoljnokfhgopoaa", sum := "2a18002dd29b64c72b3a93858c3a41ca4634641d94f8b3ef81ec8169e3a5e446", func := "loop.example/g03304/laws.FnExactCellAt", spec := "fnExactCellAt", apart := false }
def FnExactCellAtSaid : Prop := fnExactCellAtRow.holds Try.pinned (OpenSpec.ofChange fnExactCellAtSpec)

/-- ITS FALSE NEIGHBOUR: 'it returns false'. Refute it at one input. -/
def fnExactCellAtWrong : ChangeSpec := { name := "fnExactCellAt", fn := fun _ => fun
  | [d1, d2, d3] => { results := [.lit (.bool false)], args := [d1, d2, d3] }
  | _ => none }
def FnExactCellAtWrongFalsely : Prop := fnExactCellAtRow.holds Try.pinned (OpenSpec.ofChange fnExactCellAtWrong)

/-- 'laws.FnExactWithCell': WHATEVER THE INPUT: true; the input reads as it did. -/
def fnExactWithCellSpec : ChangeSpec := { name := "fnExactWithCell", fn := fun _ => fun
  | [d1, d2, d3, d4] => { results := [.lit (.bool true)], args := [d1, d2, d3, d4] }
  | _ => none }
def fnExactWithCellRow : OpenClaim := { program := "ytoljnokfhgopoaa", sum := "2a18002dd29b64c72b3a93858c3a41ca4634641d94f8b3ef81ec8169e3a5e446", func := "loop.example/g03304/laws.FnExactWithCell", spec := "fnExactWithCell", apart := false }
def FnExactWithCellSaid : Prop := fnExactWithCellRow.holds Try.pinned (OpenSpec.ofChange fnExactWithCellSpec)

/-- ITS FALSE NEIGHBOUR: 'it returns false'. Refute it at one input. -/
def fnExactWithCellWrong : ChangeSpec := { name := "fnExactWithCell", fn := fun _ => fun
  | [d1, d2, d3, d4] => { results := [.lit (.bool false)], args := [d1, d2, d3, d4] }
  | _ => none }
def FnExactWithCellWrongFalsely : Prop := fnExactWithCellRow.holds Try.pinned (OpenSpec.ofChange fnExactWithCellWrong)

/-- 'laws.FnExactPlainBlock': WHATEVER THE INPUT: true; the input reads as it did. -/
def fnExactPlainBlockSpec : ChangeSpec := { name := "fnExactPlainBlock", fn := fun _ => fun
  | [d1, d2] => { results := [.lit (.bool true)], args := [d1, d2] }
  | _ => none }
def fnExactPlainBlockRow : OpenClaim := { program := "ytoljnokfhgopoaa", sum := "2a18002dd29b64c72b3a93858c3a41ca4634641d94f8b3ef81ec8169e3a5e446", func := "loop.example/g03304/laws.FnExactPlainBlock", spec := "fnExactPlainBlock", apart := false }
def FnExactPlainBlockSaid : Prop := fnExactPlainBlockRow.holds Try.pinned (OpenSpec.ofChange fnExactPlainBlockSpec)

/-- ITS FALSE NEIGHBOUR: 'it returns false'. Refute it at one input. -/
def fnExactPlainBlockWrong : ChangeSpec := { name := "fnExactPlainBlock", fn := fun _ => fun
  | [d1, d2] => { results := [.lit (.bool false)], args := [d1, d2] }
  | _ => none }
def FnExactPlainBlockWrongFalsely : Prop := fnExactPlainBlockRow.holds Try.pinned (OpenSpec.ofChange fnExactPlainBlockWrong)

/-- 'laws.FnExactSameBlock': WHATEVER THE INPUT: true; the input reads as it did. -/
def fnExactSameBlockSpec : ChangeSpec := { name := "fnExactSameBlock", fn := fun _ => fun
  | [d1, d2] => { results := [.lit (.bool true)], args := [d1, d2] }
  | _ => none }
def fnExactSameBlockRow : OpenClaim := { program := "ytoljnokfhgopoaa", sum := "2a18002dd29b64c72b3a93858c3a41ca4634641d94f8b3ef81ec8169e3a5e446", func := "loop.example/g03304/laws.FnExactSameBlock", spec := "fnExactSameBlock", apart := false }
def FnExactSameBlockSaid : Prop := fnExactSameBlockRow.holds Try.pinned (OpenSpec.ofChange fnExactSameBlockSpec)

/-- ITS FALSE NEIGHBOUR: 'it returns false'. Refute it at one input. -/
def fnExactSameBlockWrong : ChangeSpec := { name := "fnExactSameBlock", fn := fun _ => fun
  | [d1, d2] => { results := [.lit (.bool false)], args := [d1, d2] }
  | _ => none }
def FnExactSameBlockWrongFalsely : Prop := fnExactSameBlockRow.holds Try.pinned (OpenSpec.ofChange fnExactSameBlockWrong)

/-- 'laws.FnExactColorsOf': WHATEVER THE INPUT: true; the input reads as it did. -/
def fnExactColorsOfSpec : ChangeSpec := { name := "fnExactColorsOf", fn := fun _ => fun
  | [d] => { results := [.lit (.bool true)], args := [d] }
  | _ => none }
def fnExactColorsOfRow : OpenClaim := { program := "ytoljnokfhgopoaa", sum := "2a18002dd29b64c72b3a93858c3a41ca4634641d94f8b3ef81ec8169e3a5e446", func := "loop.example/g03304/laws.FnExactColorsOf", spec := "fnExactColorsOf", apart := false }
def FnExactColorsOfSaid : Prop := fnExactColorsOfRow.holds Try.pinned (OpenSpec.ofChange fnExactColorsOfSpec)

/-- ITS FALSE NEIGHBOUR: 'it returns false'. Refute it at one input. -/
def fnExactColorsOfWrong : ChangeSpec := { name := "fnExactColorsOf", fn := fun _ => fun
  | [d] => { results := [.lit (.bool false)], args := [d] }
  | _ => none }
def FnExactColorsOfWrongFalsely : Prop := fnExactColorsOfRow.holds Try.pinned (OpenSpec.ofChange fnExactColorsOfWrong)

/-- 'laws.FnExactStarBlock': WHATEVER THE INPUT: true; the input reads as it did. -/
def fnExactStarBlockSpec : ChangeSpec := { name := "fnExactStarBlock", fn := fun _ => fun
  | [] => { results := [.lit (.bool true)], args := [] }
  | _ => none }
def fnExactStarBlockRow : OpenClaim := { program := "ytoljnokfhgopoaa", sum := "2a18002dd29b64c72b3a93858c3a41ca4634641d94f8b3ef81ec8169e3a5e446", func := "loop.example/g03304/laws.FnExactStarBlock", spec := "fnExactStarBlock", apart := false }
def FnExactStarBlockSaid : Prop := fnExactStarBlockRow.holds Try.pinned (OpenSpec.ofChange fnExactStarBlockSpec)

/-- ITS FALSE NEIGHBOUR: 'it returns false'. Refute it at one input. -/
def fnExactStarBlockWrong : ChangeSpec := { name := "fnExactStarBlock", fn := fun _ => fun
  | [] => { results := [.lit (.bool false)], args := [] }
  | _ => none }
def FnExactStarBlockWrongFalsely : Prop := fnExactStarBlockRow.holds Try.pinned (OpenSpec.ofChange fnExactStarBlockWrong)

/- THE SECOND FORM. 'bulk': how many values and letters a reading holds, each counted each time it is reached (what is shared counts as often as it is met; a slice's spare places count too). A statement '..UptoSaid' is the law's where the arguments, and the package variables that the reading takes, are together of bulk at most 1048576: NARROWER than '..Said'. Prove '..Said' where nothing that the law and all that it calls make is longer than what came in: it says more and counts as full. Else prove '..UptoSaid'. A law counts once. -/
mutual
def uptoBulk {H : Type} : DataW H → Nat
  | .lit (.string bytes) => bytes.length + 1
  | .lit _ => 1
  | .nil => 1
  | .ptr d => uptoBulk d + 1
  | .slice elems spare => uptoBulkAll elems + uptoBulkAll spare + 1
  | .agg parts => uptoBulkAll parts + 1
  | .iface _ d => uptoBulk d + 1
  | .map entries => uptoBulkEntries entries + 1
  | .held _ => 1
def uptoBulkAll {H : Type} : List (DataW H) → Nat
  | [] => 0
  | d :: r => uptoBulk d + uptoBulkAll r
def uptoBulkEntries {H : Type} : List (Lit × DataW H) → Nat
  | [] => 0
  | x :: r => uptoBulkEntry x + uptoBulkEntries r
def uptoBulkEntry {H : Type} : Lit × DataW H → Nat
  | (.string bytes, d) => bytes.length + uptoBulk d + 1
  | (_, d) => uptoBulk d + 1
 end
def uptoSmall : (H : Type) → List (DataW H) → Bool := fun _ ds => decide (uptoBulkAll ds ≤ 1048576)
def OpenSpec.upto (s : _root_.Go.ChangeSpec) : _root_.Go.OpenSpec := { _root_.Go.OpenSpec.ofChange s with cond := some uptoSmall }

/-- 'laws.FnBlocks', WHERE WHAT IT READS IS OF BULK AT MOST 1048576: true; the input reads as it did. -/
def fnBlocksUptoRow : OpenClaim := { program := "ytoljnokfhgopoaa", sum := "2a18002dd29b64c72b3a93858c3a41ca4634641d94f8b3ef81ec8169e3a5e446", func := "loop.example/g03304/laws.FnBlocks", spec := "fnBlocks", apart := false, narrowed := true }
def FnBlocksUptoSaid : Prop := fnBlocksUptoRow.holds Try.pinned (OpenSpec.upto fnBlocksSpec)

/-- 'laws.FnExactBlockOk', WHERE WHAT IT READS IS OF BULK AT MOST 1048576: true; the input reads as it did. -/
def fnExactBlockOkUptoRow : OpenClaim := { program := "ytoljnokfhgopoaa", sum := "2a18002dd29b64c72b3a93858c3a41ca4634641d94f8b3ef81ec8169e3a5e446", func := "loop.example/g03304/laws.FnExactBlockOk", spec := "fnExactBlockOk", apart := false, narrowed := true }
def FnExactBlockOkUptoSaid : Prop := fnExactBlockOkUptoRow.holds Try.pinned (OpenSpec.upto fnExactBlockOkSpec)

/-- 'laws.FnExactCellAt', WHERE WHAT IT READS IS OF BULK AT MOST 1048576: true; the input reads as it did. -/
def fnExactCellAtUptoRow : OpenClaim := { program := "ytoljnokfhgopoaa", sum := "2a18002dd29b64c72b3a93858c3a41ca4634641d94f8b3ef81ec8169e3a5e446", func := "loop.example/g03304/laws.FnExactCellAt", spec := "fnExactCellAt", apart := false, narrowed := true }
def FnExactCellAtUptoSaid : Prop := fnExactCellAtUptoRow.holds Try.pinned (OpenSpec.upto fnExactCellAtSpec)

/-- 'laws.FnExactWithCell', WHERE WHAT IT READS IS OF BULK AT MOST 1048576: true; the input reads as it did. -/
def fnExactWithCellUptoRow : OpenClaim := { program := "ytoljnokfhgopoaa", sum := "2a18002dd29b64c72b3a93858c3a41ca4634641d94f8b3ef81ec8169e3a5e446", func := "loop.example/g03304/laws.FnExactWithCell", spec := "fnExactWithCell", apart := false, narrowed := true }
def FnExactWithCellUptoSaid : Prop := fnExactWithCellUptoRow.holds Try.pinned (OpenSpec.upto fnExactWithCellSpec)

/-- 'laws.FnExactPlainBlock', WHERE WHAT IT READS IS OF BULK AT MOST 1048576: true; the input reads as it did. -/
def fnExactPlainBlockUptoRow : OpenClaim := { program := "ytoljnokfhgopoaa", sum := "2a18002dd29b64c72b3a93858c3a41ca4634641d94f8b3ef81ec8169e3a5e446", func := "loop.example/g03304/laws.FnExactPlainBlock", spec := "fnExactPlainBlock", apart := false, narrowed := true }
def FnExactPlainBlockUptoSaid : Prop := fnExactPlainBlockUptoRow.holds Try.pinned (OpenSpec.upto fnExactPlainBlockSpec)

/-- 'laws.FnExactSameBlock', WHERE WHAT IT READS IS OF BULK AT MOST 1048576: true; the input reads as it did. -/
def fnExactSameBlockUptoRow : OpenClaim := { program := "ytoljnokfhgopoaa", sum := "2a18002dd29b64c72b3a93858c3a41ca4634641d94f8b3ef81ec8169e3a5e446", func := "loop.example/g03304/laws.FnExactSameBlock", spec := "fnExactSameBlock", apart := false, narrowed := true }
def FnExactSameBlockUptoSaid : Prop := fnExactSameBlockUptoRow.holds Try.pinned (OpenSpec.upto fnExactSameBlockSpec)

/-- 'laws.FnExactColorsOf', WHERE WHAT IT READS IS OF BULK AT MOST 1048576: true; the input reads as it did. -/
def fnExactColorsOfUptoRow : OpenClaim := { program := "ytoljnokfhgopoaa", sum := "2a18002dd29b64c72b3a93858c3a41ca4634641d94f8b3ef81ec8169e3a5e446", func := "loop.example/g03304/laws.FnExactColorsOf", spec := "fnExactColorsOf", apart := false, narrowed := true }
def FnExactColorsOfUptoSaid : Prop := fnExactColorsOfUptoRow.holds Try.pinned (OpenSpec.upto fnExactColorsOfSpec)

/-- 'laws.FnExactStarBlock', WHERE WHAT IT READS IS OF BULK AT MOST 1048576: true; the input reads as it did. -/
def fnExactStarBlockUptoRow : OpenClaim := { program := "ytoljnokfhgopoaa", sum := "2a18002dd29b64c72b3a93858c3a41ca4634641d94f8b3ef81ec8169e3a5e446", func := "loop.example/g03304/laws.FnExactStarBlock", spec := "fnExactStarBlock", apart := false, narrowed := true }
def FnExactStarBlockUptoSaid : Prop := fnExactStarBlockUptoRow.holds Try.pinned (OpenSpec.upto fnExactStarBlockSpec)

end Rows
end Go.Proofs.Ytoljnokfhgopoaa
