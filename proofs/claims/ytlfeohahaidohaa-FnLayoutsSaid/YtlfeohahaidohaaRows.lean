/-
  No cell of these rows narrows 'for every input' (looked for: loops, veiled, ifaces, maps, wideKeys, modest, calm, conditions, laid).
  DERIVED. THE GIVEN ROWS OF THIS SEAT. 7 by the template 'for every input the law returns true; each argument reads behind the call as it read before'; 0 by the template 'total and deterministic' (their statements: YtlfeohahaidohaaTotals.lean).
  GIVEN WITH THE SEED: the statements are not yours to turn. If you find one false, say at which input.
  Laid BY PROGRAM, IN A SANDBOX (cutbox-rows.mjs): the forced cells as the released guide's own fill.sh prints them over the translation ee919366fde3d5ed… (all of the seat's roots in one cut). By AI agents, Wed Nov 11 2026. No macro, syntax, notation, axiom, sorry.
-/
import Derived.Test.YtlfeohahaidohaaChecked
import GoSem.Claim
import GoSem.ClaimJoined
import GoSem.ClaimMapViews
import Derived.JoinedTies
import Derived.KernelRfl
namespace Go.Proofs.Ytlfeohahaidohaa
/- THE CELL 'sum', in the pinned program and in every row, IS THE sha256 OF THE DUMP (.gsa) THAT YtlfeohahaidohaaProg.lean LOADS. Nothing in Lean hashes anything: it is a label: what it is worth is what the hold of that sum in a sandbox is worth. -/
noncomputable def Try.pinned : Pinned := { name := "ytlfeohahaidohaa", sum := "ee919366fde3d5ede3c8d9bd86f2a7aa8138e8880f4a089927a4c544eb22e294", checked := Try.checked }
namespace Rows
def none {H : Type} : Left H := { results := [], args := [] }

/-- 'laws.FnLayouts': WHATEVER THE INPUT: true; the input reads as it did. -/
def fnLayoutsSpec : ChangeSpec := { name := "fnLayouts", fn := fun _ => fun
  | [d] => { results := [.lit (.bool true)], args := [d] }
  | _ => none }
def fnLayoutsRow : OpenClaim := { program := "ytlfeohahaidohaa", sum := "ee919366fde3d5ede3c8d9bd86f2a7aa8138e8880f4a089927a4c544eb22e294", func := "loop.example/g03304/laws.FnLayouts", spec := "fnLayouts", apart := false }
def FnLayoutsSaid : Prop := fnLayoutsRow.holds Try.pinned (OpenSpec.ofChange fnLayoutsSpec)

/-- ITS FALSE NEIGHBOUR: 'it returns false'. Refute it at one input. -/
def fnLayoutsWrong : ChangeSpec := { name := "fnLayouts", fn := fun _ => fun
  | [d] => { results := [.lit (.bool false)], args := [d] }
  | _ => none }
def FnLayoutsWrongFalsely : Prop := fnLayoutsRow.holds Try.pinned (OpenSpec.ofChange fnLayoutsWrong)

/-- 'laws.FnExactLayoutOk': WHATEVER THE INPUT: true; the input reads as it did. -/
def fnExactLayoutOkSpec : ChangeSpec := { name := "fnExactLayoutOk", fn := fun _ => fun
  | [d] => { results := [.lit (.bool true)], args := [d] }
  | _ => none }
def fnExactLayoutOkRow : OpenClaim := { program := "ytlfeohahaidohaa", sum := "ee919366fde3d5ede3c8d9bd86f2a7aa8138e8880f4a089927a4c544eb22e294", func := "loop.example/g03304/laws.FnExactLayoutOk", spec := "fnExactLayoutOk", apart := false }
def FnExactLayoutOkSaid : Prop := fnExactLayoutOkRow.holds Try.pinned (OpenSpec.ofChange fnExactLayoutOkSpec)

/-- ITS FALSE NEIGHBOUR: 'it returns false'. Refute it at one input. -/
def fnExactLayoutOkWrong : ChangeSpec := { name := "fnExactLayoutOk", fn := fun _ => fun
  | [d] => { results := [.lit (.bool false)], args := [d] }
  | _ => none }
def FnExactLayoutOkWrongFalsely : Prop := fnExactLayoutOkRow.holds Try.pinned (OpenSpec.ofChange fnExactLayoutOkWrong)

/-- 'laws.FnExactPatchAt': WHATEVER THE INPUT: true; the input reads as it did. -/
def fnExactPatchAtSpec : ChangeSpec := { name := "fnExactPatchAt", fn := fun _ => fun
  | [d1, d2, d3] => { results := [.lit (.bool true)], args := [d1, d2, d3] }
  | _ => none }
def fnExactPatchAtRow : OpenClaim := { program := "ytlfeohahaidohaa", sum := "ee919366fde3d5ede3c8d9bd86f2a7aa8138e8880f4a089927a4c544eb22e294", func := "loop.example/g03304/laws.FnExactPatchAt", spec := "fnExactPatchAt", apart := false }
def FnExactPatchAtSaid : Prop := fnExactPatchAtRow.holds Try.pinned (OpenSpec.ofChange fnExactPatchAtSpec)

/-- ITS FALSE NEIGHBOUR: 'it returns false'. Refute it at one input. -/
def fnExactPatchAtWrong : ChangeSpec := { name := "fnExactPatchAt", fn := fun _ => fun
  | [d1, d2, d3] => { results := [.lit (.bool false)], args := [d1, d2, d3] }
  | _ => none }
def FnExactPatchAtWrongFalsely : Prop := fnExactPatchAtRow.holds Try.pinned (OpenSpec.ofChange fnExactPatchAtWrong)

/-- 'laws.FnExactAreBeside': WHATEVER THE INPUT: true; the input reads as it did. -/
def fnExactAreBesideSpec : ChangeSpec := { name := "fnExactAreBeside", fn := fun _ => fun
  | [d1, d2, d3] => { results := [.lit (.bool true)], args := [d1, d2, d3] }
  | _ => none }
def fnExactAreBesideRow : OpenClaim := { program := "ytlfeohahaidohaa", sum := "ee919366fde3d5ede3c8d9bd86f2a7aa8138e8880f4a089927a4c544eb22e294", func := "loop.example/g03304/laws.FnExactAreBeside", spec := "fnExactAreBeside", apart := false }
def FnExactAreBesideSaid : Prop := fnExactAreBesideRow.holds Try.pinned (OpenSpec.ofChange fnExactAreBesideSpec)

/-- ITS FALSE NEIGHBOUR: 'it returns false'. Refute it at one input. -/
def fnExactAreBesideWrong : ChangeSpec := { name := "fnExactAreBeside", fn := fun _ => fun
  | [d1, d2, d3] => { results := [.lit (.bool false)], args := [d1, d2, d3] }
  | _ => none }
def FnExactAreBesideWrongFalsely : Prop := fnExactAreBesideRow.holds Try.pinned (OpenSpec.ofChange fnExactAreBesideWrong)

/-- 'laws.FnExactSeamLength': WHATEVER THE INPUT: true; the input reads as it did. -/
def fnExactSeamLengthSpec : ChangeSpec := { name := "fnExactSeamLength", fn := fun _ => fun
  | [d] => { results := [.lit (.bool true)], args := [d] }
  | _ => none }
def fnExactSeamLengthRow : OpenClaim := { program := "ytlfeohahaidohaa", sum := "ee919366fde3d5ede3c8d9bd86f2a7aa8138e8880f4a089927a4c544eb22e294", func := "loop.example/g03304/laws.FnExactSeamLength", spec := "fnExactSeamLength", apart := false }
def FnExactSeamLengthSaid : Prop := fnExactSeamLengthRow.holds Try.pinned (OpenSpec.ofChange fnExactSeamLengthSpec)

/-- ITS FALSE NEIGHBOUR: 'it returns false'. Refute it at one input. -/
def fnExactSeamLengthWrong : ChangeSpec := { name := "fnExactSeamLength", fn := fun _ => fun
  | [d] => { results := [.lit (.bool false)], args := [d] }
  | _ => none }
def FnExactSeamLengthWrongFalsely : Prop := fnExactSeamLengthRow.holds Try.pinned (OpenSpec.ofChange fnExactSeamLengthWrong)

/-- 'laws.FnExactTurnLayout': WHATEVER THE INPUT: true; the input reads as it did. -/
def fnExactTurnLayoutSpec : ChangeSpec := { name := "fnExactTurnLayout", fn := fun _ => fun
  | [d] => { results := [.lit (.bool true)], args := [d] }
  | _ => none }
def fnExactTurnLayoutRow : OpenClaim := { program := "ytlfeohahaidohaa", sum := "ee919366fde3d5ede3c8d9bd86f2a7aa8138e8880f4a089927a4c544eb22e294", func := "loop.example/g03304/laws.FnExactTurnLayout", spec := "fnExactTurnLayout", apart := false }
def FnExactTurnLayoutSaid : Prop := fnExactTurnLayoutRow.holds Try.pinned (OpenSpec.ofChange fnExactTurnLayoutSpec)

/-- ITS FALSE NEIGHBOUR: 'it returns false'. Refute it at one input. -/
def fnExactTurnLayoutWrong : ChangeSpec := { name := "fnExactTurnLayout", fn := fun _ => fun
  | [d] => { results := [.lit (.bool false)], args := [d] }
  | _ => none }
def FnExactTurnLayoutWrongFalsely : Prop := fnExactTurnLayoutRow.holds Try.pinned (OpenSpec.ofChange fnExactTurnLayoutWrong)

/-- 'laws.FnExactSampleLayout': WHATEVER THE INPUT: true; the input reads as it did. -/
def fnExactSampleLayoutSpec : ChangeSpec := { name := "fnExactSampleLayout", fn := fun _ => fun
  | [] => { results := [.lit (.bool true)], args := [] }
  | _ => none }
def fnExactSampleLayoutRow : OpenClaim := { program := "ytlfeohahaidohaa", sum := "ee919366fde3d5ede3c8d9bd86f2a7aa8138e8880f4a089927a4c544eb22e294", func := "loop.example/g03304/laws.FnExactSampleLayout", spec := "fnExactSampleLayout", apart := false }
def FnExactSampleLayoutSaid : Prop := fnExactSampleLayoutRow.holds Try.pinned (OpenSpec.ofChange fnExactSampleLayoutSpec)

/-- ITS FALSE NEIGHBOUR: 'it returns false'. Refute it at one input. -/
def fnExactSampleLayoutWrong : ChangeSpec := { name := "fnExactSampleLayout", fn := fun _ => fun
  | [] => { results := [.lit (.bool false)], args := [] }
  | _ => none }
def FnExactSampleLayoutWrongFalsely : Prop := fnExactSampleLayoutRow.holds Try.pinned (OpenSpec.ofChange fnExactSampleLayoutWrong)

/- THE SECOND FORM. 'bulk': how many values and letters a reading holds, each counted each time it is reached (what is shared counts as often as it is met; a slice's spare places count too). A statement '..UptoSaid' is the law's where the arguments, and the package variables that the reading takes, are together of bulk at most 1048576: NARROWER than '..Said'. Prove '..Said' where nothing that the law and all that it calls make is longer than what came in: it says more and counts as full. Else prove '..UptoSaid'. A law counts once. -/
mutual
def uptoBulk {H : Type} : DataW H → Nat
  | .lit (.string bytes) => bytes.length + 1
  | .lit _ => 1
  | .nil => 1
  | .ptr d => uptoBulk d + 1
  | .slice elems spare => uptoBulkAll elems + uptoBulkAll spare + 1
  | .agg parts => uptoBulkAll parts + 1
  | .iface _ d => uptoBulk d + 1
  | .map entries => uptoBulkEntries entries + 1
  | .held _ => 1
def uptoBulkAll {H : Type} : List (DataW H) → Nat
  | [] => 0
  | d :: r => uptoBulk d + uptoBulkAll r
def uptoBulkEntries {H : Type} : List (Lit × DataW H) → Nat
  | [] => 0
  | x :: r => uptoBulkEntry x + uptoBulkEntries r
def uptoBulkEntry {H : Type} : Lit × DataW H → Nat
  | (.string bytes, d) => bytes.length + uptoBulk d + 1
  | (_, d) => uptoBulk d + 1
 end
def uptoSmall : (H : Type) → List (DataW H) → Bool := fun _ ds => decide (uptoBulkAll ds ≤ 1048576)
def OpenSpec.upto (s : _root_.Go.ChangeSpec) : _root_.Go.OpenSpec := { _root_.Go.OpenSpec.ofChange s with cond := some uptoSmall }

/-- 'laws.FnLayouts', WHERE WHAT IT READS IS OF BULK AT MOST 1048576: true; the input reads as it did. -/
def fnLayoutsUptoRow : OpenClaim := { program := "ytlfeohahaidohaa", sum := "ee919366fde3d5ede3c8d9bd86f2a7aa8138e8880f4a089927a4c544eb22e294", func := "loop.example/g03304/laws.FnLayouts", spec := "fnLayouts", apart := false, narrowed := true }
def FnLayoutsUptoSaid : Prop := fnLayoutsUptoRow.holds Try.pinned (OpenSpec.upto fnLayoutsSpec)

/-- 'laws.FnExactLayoutOk', WHERE WHAT IT READS IS OF BULK AT MOST 1048576: true; the input reads as it did. -/
def fnExactLayoutOkUptoRow : OpenClaim := { program := "ytlfeohahaidohaa", sum := "ee919366fde3d5ede3c8d9bd86f2a7aa8138e8880f4a089927a4c544eb22e294", func := "loop.example/g03304/laws.FnExactLayoutOk", spec := "fnExactLayoutOk", apart := false, narrowed := true }
def FnExactLayoutOkUptoSaid : Prop := fnExactLayoutOkUptoRow.holds Try.pinned (OpenSpec.upto fnExactLayoutOkSpec)

/-- 'laws.FnExactPatchAt', WHERE WHAT IT READS IS OF BULK AT MOST 1048576: true; the input reads as it did. -/
def fnExactPatchAtUptoRow : OpenClaim := { program := "ytlfeohahaidohaa", sum := "ee919366fde3d5ede3c8d9bd86f2a7aa8138e8880f4a089927a4c544eb22e294", func := "loop.example/g03304/laws.FnExactPatchAt", spec := "fnExactPatchAt", apart := false, narrowed := true }
def FnExactPatchAtUptoSaid : Prop := fnExactPatchAtUptoRow.holds Try.pinned (OpenSpec.upto fnExactPatchAtSpec)

/-- 'laws.FnExactAreBeside', WHERE WHAT IT READS IS OF BULK AT MOST 1048576: true; the input reads as it did. -/
def fnExactAreBesideUptoRow : OpenClaim := { program := "ytlfeohahaidohaa", sum := "ee919366fde3d5ede3c8d9bd86f2a7aa8138e8880f4a089927a4c544eb22e294", func := "loop.example/g03304/laws.FnExactAreBeside", spec := "fnExactAreBeside", apart := false, narrowed := true }
def FnExactAreBesideUptoSaid : Prop := fnExactAreBesideUptoRow.holds Try.pinned (OpenSpec.upto fnExactAreBesideSpec)

/-- 'laws.FnExactSeamLength', WHERE WHAT IT READS IS OF BULK AT MOST 1048576: true; the input reads as it did. -/
def fnExactSeamLengthUptoRow : OpenClaim := { program := "ytlfeohahaidohaa", sum := "ee919366fde3d5ede3c8d9bd86f2a7aa8138e8880f4a089927a4c544eb22e294", func := "loop.example/g03304/laws.FnExactSeamLength", spec := "fnExactSeamLength", apart := false, narrowed := true }
def FnExactSeamLengthUptoSaid : Prop := fnExactSeamLengthUptoRow.holds Try.pinned (OpenSpec.upto fnExactSeamLengthSpec)

/-- 'laws.FnExactTurnLayout', WHERE WHAT IT READS IS OF BULK AT MOST 1048576: true; the input reads as it did. -/
def fnExactTurnLayoutUptoRow : OpenClaim := { program := "ytlfeohahaidohaa", sum := "ee919366fde3d5ede3c8d9bd86f2a7aa8138e8880f4a089927a4c544eb22e294", func := "loop.example/g03304/laws.FnExactTurnLayout", spec := "fnExactTurnLayout", apart := false, narrowed := true }
def FnExactTurnLayoutUptoSaid : Prop := fnExactTurnLayoutUptoRow.holds Try.pinned (OpenSpec.upto fnExactTurnLayoutSpec)

/-- 'laws.FnExactSampleLayout', WHERE WHAT IT READS IS OF BULK AT MOST 1048576: true; the input reads as it did. -/
def fnExactSampleLayoutUptoRow : OpenClaim := { program := "ytlfeohahaidohaa", sum := "ee919366fde3d5ede3c8d9bd86f2a7aa8138e8880f4a089927a4c544eb22e294", func := "loop.example/g03304/laws.FnExactSampleLayout", spec := "fnExactSampleLayout", apart := false, narrowed := true }
def FnExactSampleLayoutUptoSaid : Prop := fnExactSampleLayoutUptoRow.holds Try.pinned (OpenSpec.upto fnExactSampleLayoutSpec)

end Rows
end Go.Proofs.Ytlfeohahaidohaa
