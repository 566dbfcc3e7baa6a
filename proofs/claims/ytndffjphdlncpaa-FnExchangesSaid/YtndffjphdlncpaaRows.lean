/-
  No cell of these rows narrows 'for every input' (looked for: loops, veiled, ifaces, maps, wideKeys, modest, calm, conditions, laid).
  DERIVED. THE GIVEN ROWS OF THIS SEAT. 8 by the template 'for every input the law returns true; each argument reads behind the call as it read before'; 0 by the template 'total and deterministic' (their statements: YtndffjphdlncpaaTotals.lean).
  GIVEN WITH THE SEED: the statements are not yours to turn. If you find one false, say at which input.
  Laid BY PROGRAM, IN A SANDBOX (cutbox-rows.mjs): the forced cells as the released guide's own fill.sh prints them over the translation 94a16ba649ff7dd8… (all of the seat's roots in one cut). By AI agents, Wed Nov 11 2026. No macro, syntax, notation, axiom, sorry.
-/
import Derived.Test.YtndffjphdlncpaaChecked
import GoSem.Claim
import GoSem.ClaimJoined
import GoSem.ClaimMapViews
import Derived.JoinedTies
import Derived.KernelRfl
namespace Go.Proofs.Ytndffjphdlncpaa
/- THE CELL 'sum', in the pinned program and in every row, IS THE sha256 OF THE DUMP (.gsa) THAT YtndffjphdlncpaaProg.lean LOADS. Nothing in Lean hashes anything: it is a label: what it is worth is what the hold of that sum in a sandbox is worth. -/
noncomputable def Try.pinned : Pinned := { name := "ytndffjphdlncpaa", sum := "94a16ba649ff7dd8dee8e12d31a826da70092bd419ea3a1a1b0af6e6a8f7c627", checked := Try.checked }
namespace Rows
def none {H : Type} : Left H := { results := [], args := [] }

/-- 'laws.FnExchanges': WHATEVER THE INPUT: true; the input reads as it did. -/
def fnExchangesSpec : ChangeSpec := { name := "fnExchanges", fn := fun _ => fun
  | [d] => { results := [.lit (.bool true)], args := [d] }
  | _ => none }
def fnExchangesRow : OpenClaim := { program := "ytndffjphdlncpaa", sum := "94a16ba649ff7dd8dee8e12d31a826da70092bd419ea3a1a1b0af6e6a8f7c627", func := "loop.example/g03304/laws.FnExchanges", spec := "fnExchanges", apart := false }
def FnExchangesSaid : Prop := fnExchangesRow.holds Try.pinned (OpenSpec.ofChange fnExchangesSpec)

/-- ITS FALSE NEIGHBOUR: 'it returns false'. Refute it at one input. -/
def fnExchangesWrong : ChangeSpec := { name := "fnExchanges", fn := fun _ => fun
  | [d] => { results := [.lit (.bool false)], args := [d] }
  | _ => none }
def FnExchangesWrongFalsely : Prop := fnExchangesRow.holds Try.pinned (OpenSpec.ofChange fnExchangesWrong)

/-- 'laws.FnExactListOk': WHATEVER THE INPUT: true; the input reads as it did. -/
def fnExactListOkSpec : ChangeSpec := { name := "fnExactListOk", fn := fun _ => fun
  | [d] => { results := [.lit (.bool true)], args := [d] }
  | _ => none }
def fnExactListOkRow : OpenClaim := { program := "ytndffjphdlncpaa", sum := "94a16ba649ff7dd8dee8e12d31a826da70092bd419ea3a1a1b0af6e6a8f7c627", func := "loop.example/g03304/laws.FnExactListOk", spec := "fnExactListOk", apart := false }
def FnExactListOkSaid : Prop := fnExactListOkRow.holds Try.pinned (OpenSpec.ofChange fnExactListOkSpec)

/-- ITS FALSE NEIGHBOUR: 'it returns false'. Refute it at one input. -/
def fnExactListOkWrong : ChangeSpec := { name := "fnExactListOk", fn := fun _ => fun
  | [d] => { results := [.lit (.bool false)], args := [d] }
  | _ => none }
def FnExactListOkWrongFalsely : Prop := fnExactListOkRow.holds Try.pinned (OpenSpec.ofChange fnExactListOkWrong)

/-- 'laws.FnExactIsExchange': WHATEVER THE INPUT: true; the input reads as it did. -/
def fnExactIsExchangeSpec : ChangeSpec := { name := "fnExactIsExchange", fn := fun _ => fun
  | [d] => { results := [.lit (.bool true)], args := [d] }
  | _ => none }
def fnExactIsExchangeRow : OpenClaim := { program := "ytndffjphdlncpaa", sum := "94a16ba649ff7dd8dee8e12d31a826da70092bd419ea3a1a1b0af6e6a8f7c627", func := "loop.example/g03304/laws.FnExactIsExchange", spec := "fnExactIsExchange", apart := false }
def FnExactIsExchangeSaid : Prop := fnExactIsExchangeRow.holds Try.pinned (OpenSpec.ofChange fnExactIsExchangeSpec)

/-- ITS FALSE NEIGHBOUR: 'it returns false'. Refute it at one input. -/
def fnExactIsExchangeWrong : ChangeSpec := { name := "fnExactIsExchange", fn := fun _ => fun
  | [d] => { results := [.lit (.bool false)], args := [d] }
  | _ => none }
def FnExactIsExchangeWrongFalsely : Prop := fnExactIsExchangeRow.holds Try.pinned (OpenSpec.ofChange fnExactIsExchangeWrong)

/-- 'laws.FnExactExchangeCell': WHATEVER THE INPUT: true; the input reads as it did. -/
def fnExactExchangeCellSpec : ChangeSpec := { name := "fnExactExchangeCell", fn := fun _ => fun
  | [d1, d2] => { results := [.lit (.bool true)], args := [d1, d2] }
  | _ => none }
def fnExactExchangeCellRow : OpenClaim := { program := "ytndffjphdlncpaa", sum := "94a16ba649ff7dd8dee8e12d31a826da70092bd419ea3a1a1b0af6e6a8f7c627", func := "loop.example/g03304/laws.FnExactExchangeCell", spec := "fnExactExchangeCell", apart := false }
def FnExactExchangeCellSaid : Prop := fnExactExchangeCellRow.holds Try.pinned (OpenSpec.ofChange fnExactExchangeCellSpec)

/-- ITS FALSE NEIGHBOUR: 'it returns false'. Refute it at one input. -/
def fnExactExchangeCellWrong : ChangeSpec := { name := "fnExactExchangeCell", fn := fun _ => fun
  | [d1, d2] => { results := [.lit (.bool false)], args := [d1, d2] }
  | _ => none }
def FnExactExchangeCellWrongFalsely : Prop := fnExactExchangeCellRow.holds Try.pinned (OpenSpec.ofChange fnExactExchangeCellWrong)

/-- 'laws.FnExactExchangeBlock': WHATEVER THE INPUT: true; the input reads as it did. -/
def fnExactExchangeBlockSpec : ChangeSpec := { name := "fnExactExchangeBlock", fn := fun _ => fun
  | [d1, d2] => { results := [.lit (.bool true)], args := [d1, d2] }
  | _ => none }
def fnExactExchangeBlockRow : OpenClaim := { program := "ytndffjphdlncpaa", sum := "94a16ba649ff7dd8dee8e12d31a826da70092bd419ea3a1a1b0af6e6a8f7c627", func := "loop.example/g03304/laws.FnExactExchangeBlock", spec := "fnExactExchangeBlock", apart := false }
def FnExactExchangeBlockSaid : Prop := fnExactExchangeBlockRow.holds Try.pinned (OpenSpec.ofChange fnExactExchangeBlockSpec)

/-- ITS FALSE NEIGHBOUR: 'it returns false'. Refute it at one input. -/
def fnExactExchangeBlockWrong : ChangeSpec := { name := "fnExactExchangeBlock", fn := fun _ => fun
  | [d1, d2] => { results := [.lit (.bool false)], args := [d1, d2] }
  | _ => none }
def FnExactExchangeBlockWrongFalsely : Prop := fnExactExchangeBlockRow.holds Try.pinned (OpenSpec.ofChange fnExactExchangeBlockWrong)

/-- 'laws.FnExactSwapList': WHATEVER THE INPUT: true; the input reads as it did. -/
def fnExactSwapListSpec : ChangeSpec := { name := "fnExactSwapList", fn := fun _ => fun
  | [d1, d2] => { results := [.lit (.bool true)], args := [d1, d2] }
  | _ => none }
def fnExactSwapListRow : OpenClaim := { program := "ytndffjphdlncpaa", sum := "94a16ba649ff7dd8dee8e12d31a826da70092bd419ea3a1a1b0af6e6a8f7c627", func := "loop.example/g03304/laws.FnExactSwapList", spec := "fnExactSwapList", apart := false }
def FnExactSwapListSaid : Prop := fnExactSwapListRow.holds Try.pinned (OpenSpec.ofChange fnExactSwapListSpec)

/-- ITS FALSE NEIGHBOUR: 'it returns false'. Refute it at one input. -/
def fnExactSwapListWrong : ChangeSpec := { name := "fnExactSwapList", fn := fun _ => fun
  | [d1, d2] => { results := [.lit (.bool false)], args := [d1, d2] }
  | _ => none }
def FnExactSwapListWrongFalsely : Prop := fnExactSwapListRow.holds Try.pinned (OpenSpec.ofChange fnExactSwapListWrong)

/-- 'laws.FnExactUndoList': WHATEVER THE INPUT: true; the input reads as it did. -/
def fnExactUndoListSpec : ChangeSpec := { name := "fnExactUndoList", fn := fun _ => fun
  | [d] => { results := [.lit (.bool true)], args := [d] }
  | _ => none }
def fnExactUndoListRow : OpenClaim := { program := "ytndffjphdlncpaa", sum := "94a16ba649ff7dd8dee8e12d31a826da70092bd419ea3a1a1b0af6e6a8f7c627", func := "loop.example/g03304/laws.FnExactUndoList", spec := "fnExactUndoList", apart := false }
def FnExactUndoListSaid : Prop := fnExactUndoListRow.holds Try.pinned (OpenSpec.ofChange fnExactUndoListSpec)

/-- ITS FALSE NEIGHBOUR: 'it returns false'. Refute it at one input. -/
def fnExactUndoListWrong : ChangeSpec := { name := "fnExactUndoList", fn := fun _ => fun
  | [d] => { results := [.lit (.bool false)], args := [d] }
  | _ => none }
def FnExactUndoListWrongFalsely : Prop := fnExactUndoListRow.holds Try.pinned (OpenSpec.ofChange fnExactUndoListWrong)

/-- 'laws.FnExactFirstUse': WHATEVER THE INPUT: true; the input reads as it did. -/
def fnExactFirstUseSpec : ChangeSpec := { name := "fnExactFirstUse", fn := fun _ => fun
  | [d] => { results := [.lit (.bool true)], args := [d] }
  | _ => none }
def fnExactFirstUseRow : OpenClaim := { program := "ytndffjphdlncpaa", sum := "94a16ba649ff7dd8dee8e12d31a826da70092bd419ea3a1a1b0af6e6a8f7c627", func := "loop.example/g03304/laws.FnExactFirstUse", spec := "fnExactFirstUse", apart := false }
def FnExactFirstUseSaid : Prop := fnExactFirstUseRow.holds Try.pinned (OpenSpec.ofChange fnExactFirstUseSpec)

/-- ITS FALSE NEIGHBOUR: 'it returns false'. Refute it at one input. -/
def fnExactFirstUseWrong : ChangeSpec := { name := "fnExactFirstUse", fn := fun _ => fun
  | [d] => { results := [.lit (.bool false)], args := [d] }
  | _ => none }
def FnExactFirstUseWrongFalsely : Prop := fnExactFirstUseRow.holds Try.pinned (OpenSpec.ofChange fnExactFirstUseWrong)

/- THE SECOND FORM. 'bulk': how many values and letters a reading holds, each counted each time it is reached (what is shared counts as often as it is met; a slice's spare places count too). A statement '..UptoSaid' is the law's where the arguments, and the package variables that the reading takes, are together of bulk at most 1048576: NARROWER than '..Said'. Prove '..Said' where nothing that the law and all that it calls make is longer than what came in: it says more and counts as full. Else prove '..UptoSaid'. A law counts once. -/
mutual
def uptoBulk {H : Type} : DataW H → Nat
  | .lit (.string bytes) => bytes.length + 1
  | .lit _ => 1
  | .nil => 1
  | .ptr d => uptoBulk d + 1
  | .slice elems spare => uptoBulkAll elems + uptoBulkAll spare + 1
  | .agg parts => uptoBulkAll parts + 1
  | .iface _ d => uptoBulk d + 1
  | .map entries => uptoBulkEntries entries + 1
  | .held _ => 1
def uptoBulkAll {H : Type} : List (DataW H) → Nat
  | [] => 0
  | d :: r => uptoBulk d + uptoBulkAll r
def uptoBulkEntries {H : Type} : List (Lit × DataW H) → Nat
  | [] => 0
  | x :: r => uptoBulkEntry x + uptoBulkEntries r
def uptoBulkEntry {H : Type} : Lit × DataW H → Nat
  | (.string bytes, d) => bytes.length + uptoBulk d + 1
  | (_, d) => uptoBulk d + 1
 end
def uptoSmall : (H : Type) → List (DataW H) → Bool := fun _ ds => decide (uptoBulkAll ds ≤ 1048576)
def OpenSpec.upto (s : _root_.Go.ChangeSpec) : _root_.Go.OpenSpec := { _root_.Go.OpenSpec.ofChange s with cond := some uptoSmall }

/-- 'laws.FnExchanges', WHERE WHAT IT READS IS OF BULK AT MOST 1048576: true; the input reads as it did. -/
def fnExchangesUptoRow : OpenClaim := { program := "ytndffjphdlncpaa", sum := "94a16ba649ff7dd8dee8e12d31a826da70092bd419ea3a1a1b0af6e6a8f7c627", func := "loop.example/g03304/laws.FnExchanges", spec := "fnExchanges", apart := false, narrowed := true }
def FnExchangesUptoSaid : Prop := fnExchangesUptoRow.holds Try.pinned (OpenSpec.upto fnExchangesSpec)

/-- 'laws.FnExactListOk', WHERE WHAT IT READS IS OF BULK AT MOST 1048576: true; the input reads as it did. -/
def fnExactListOkUptoRow : OpenClaim := { program := "ytndffjphdlncpaa", sum := "94a16ba649ff7dd8dee8e12d31a826da70092bd419ea3a1a1b0af6e6a8f7c627", func := "loop.example/g03304/laws.FnExactListOk", spec := "fnExactListOk", apart := false, narrowed := true }
def FnExactListOkUptoSaid : Prop := fnExactListOkUptoRow.holds Try.pinned (OpenSpec.upto fnExactListOkSpec)

/-- 'laws.FnExactIsExchange', WHERE WHAT IT READS IS OF BULK AT MOST 1048576: true; the input reads as it did. -/
def fnExactIsExchangeUptoRow : OpenClaim := { program := "ytndffjphdlncpaa", sum := "94a16ba649ff7dd8dee8e12d31a826da70092bd419ea3a1a1b0af6e6a8f7c627", func := "loop.example/g03304/laws.FnExactIsExchange", spec := "fnExactIsExchange", apart := false, narrowed := true }
def FnExactIsExchangeUptoSaid : Prop := fnExactIsExchangeUptoRow.holds Try.pinned (OpenSpec.upto fnExactIsExchangeSpec)

/-- 'laws.FnExactExchangeCell', WHERE WHAT IT READS IS OF BULK AT MOST 1048576: true; the input reads as it did. -/
def fnExactExchangeCellUptoRow : OpenClaim := { program := "ytndffjphdlncpaa", sum := "94a16ba649ff7dd8dee8e12d31a826da70092bd419ea3a1a1b0af6e6a8f7c627", func := "loop.example/g03304/laws.FnExactExchangeCell", spec := "fnExactExchangeCell", apart := false, narrowed := true }
def FnExactExchangeCellUptoSaid : Prop := fnExactExchangeCellUptoRow.holds Try.pinned (OpenSpec.upto fnExactExchangeCellSpec)

/-- 'laws.FnExactExchangeBlock', WHERE WHAT IT READS IS OF BULK AT MOST 1048576: true; the input reads as it did. -/
def fnExactExchangeBlockUptoRow : OpenClaim := { program := "ytndffjphdlncpaa", sum := "94a16ba649ff7dd8dee8e12d31a826da70092bd419ea3a1a1b0af6e6a8f7c627", func := "loop.example/g03304/laws.FnExactExchangeBlock", spec := "fnExactExchangeBlock", apart := false, narrowed := true }
def FnExactExchangeBlockUptoSaid : Prop := fnExactExchangeBlockUptoRow.holds Try.pinned (OpenSpec.upto fnExactExchangeBlockSpec)

/-- 'laws.FnExactSwapList', WHERE WHAT IT READS IS OF BULK AT MOST 1048576: true; the input reads as it did. -/
def fnExactSwapListUptoRow : OpenClaim := { program := "ytndffjphdlncpaa", sum := "94a16ba649ff7dd8dee8e12d31a826da70092bd419ea3a1a1b0af6e6a8f7c627", func := "loop.example/g03304/laws.FnExactSwapList", spec := "fnExactSwapList", apart := false, narrowed := true }
def FnExactSwapListUptoSaid : Prop := fnExactSwapListUptoRow.holds Try.pinned (OpenSpec.upto fnExactSwapListSpec)

/-- 'laws.FnExactUndoList', WHERE WHAT IT READS IS OF BULK AT MOST 1048576: true; the input reads as it did. -/
def fnExactUndoListUptoRow : OpenClaim := { program := "ytndffjphdlncpaa", sum := "94a16ba649ff7dd8dee8e12d31a826da70092bd419ea3a1a1b0af6e6a8f7c627", func := "loop.example/g03304/laws.FnExactUndoList", spec := "fnExactUndoList", apart := false, narrowed := true }
def FnExactUndoListUptoSaid : Prop := fnExactUndoListUptoRow.holds Try.pinned (OpenSpec.upto fnExactUndoListSpec)

/-- 'laws.FnExactFirstUse', WHERE WHAT IT READS IS OF BULK AT MOST 1048576: true; the input reads as it did. -/
def fnExactFirstUseUptoRow : OpenClaim := { program := "ytndffjphdlncpaa", sum := "94a16ba649ff7dd8dee8e12d31a826da70092bd419ea3a1a1b0af6e6a8f7c627", func := "loop.example/g03304/laws.FnExactFirstUse", spec := "fnExactFirstUse", apart := false, narrowed := true }
def FnExactFirstUseUptoSaid : Prop := fnExactFirstUseUptoRow.holds Try.pinned (OpenSpec.upto fnExactFirstUseSpec)

end Rows
end Go.Proofs.Ytndffjphdlncpaa
