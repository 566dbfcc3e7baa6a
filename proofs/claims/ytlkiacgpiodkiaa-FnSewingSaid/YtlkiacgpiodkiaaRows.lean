/-
  No cell of these rows narrows 'for every input' (looked for: loops, veiled, ifaces, maps, wideKeys, modest, calm, conditions, laid).
  DERIVED. THE GIVEN ROWS OF THIS SEAT. 6 by the template 'for every input the law returns true; each argument reads behind the call as it read before'; 0 by the template 'total and deterministic' (their statements: YtlkiacgpiodkiaaTotals.lean).
  GIVEN WITH THE SEED: the statements are not yours to turn. If you find one false, say at which input.
  Laid BY PROGRAM, IN A SANDBOX (cutbox-rows.mjs): the forced cells as the released guide's own fill.sh prints them over the translation 205ae5548f1a9e30… (all of the seat's roots in one cut). By AI agents, Wed Nov 11 2026. No macro, syntax, notation, axiom, sorry.
-/
import Derived.Test.YtlkiacgpiodkiaaChecked
import GoSem.Claim
import GoSem.ClaimJoined
import GoSem.ClaimMapViews
import Derived.JoinedTies
import Derived.KernelRfl
namespace Go.Proofs.Ytlkiacgpiodkiaa
/- THE CELL 'sum', in the pinned program and in every row, IS THE sha256 OF THE DUMP (.gsa) THAT YtlkiacgpiodkiaaProg.lean LOADS. Nothing in Lean hashes anything: it is a label: what it is worth is what the hold of that sum in a sandbox is worth. -/
noncomputable def Try.pinned : Pinned := { name := "ytlkiacgpiodkiaa", sum := "205ae5548f1a9e305d23855d6419d03b339607743aacc03d0f206ccdcae62676", checked := Try.checked }
namespace Rows
def none {H : Type} : Left H := { results := [], args := [] }

/-- 'laws.FnSewing': WHATEVER THE INPUT: true; the input reads as it did. -/
def fnSewingSpec : ChangeSpec := { name := "fnSewing", fn := fun _ => fun
  | [d] => { results := [.lit (.bool true)], args := [d] }
  | _ => none }
def fnSewingRow : OpenClaim := { program := "ytlkiacgpiodkiaa", sum := "205ae5548f1a9e305d23855d6419d03b339607743aacc03d0f206ccdcae62676", func := "loop.example/g03304/laws.FnSewing", spec := "fnSewing", recurses := true, apart := false }
def FnSewingSaid : Prop := fnSewingRow.holds Try.pinned (OpenSpec.ofChange fnSewingSpec)

/-- ITS FALSE NEIGHBOUR: 'it returns false'. Refute it at one input. -/
def fnSewingWrong : ChangeSpec := { name := "fnSewing", fn := fun _ => fun
  | [d] => { results := [.lit (.bool false)], args := [d] }
  | _ => none }
def FnSewingWrongFalsely : Prop := fnSewingRow.holds Try.pinned (OpenSpec.ofChange fnSewingWrong)

/-- 'laws.FnExactCountSewOrders': WHATEVER THE INPUT: true; the input reads as it did. -/
def fnExactCountSewOrdersSpec : ChangeSpec := { name := "fnExactCountSewOrders", fn := fun _ => fun
  | [d1, d2] => { results := [.lit (.bool true)], args := [d1, d2] }
  | _ => none }
def fnExactCountSewOrdersRow : OpenClaim := { program := "ytlkiacgpiodkiaa", sum := "205ae5548f1a9e305d23855d6419d03b339607743aacc03d0f206ccdcae62676", func := "loop.example/g03304/laws.FnExactCountSewOrders", spec := "fnExactCountSewOrders", apart := false }
def FnExactCountSewOrdersSaid : Prop := fnExactCountSewOrdersRow.holds Try.pinned (OpenSpec.ofChange fnExactCountSewOrdersSpec)

/-- ITS FALSE NEIGHBOUR: 'it returns false'. Refute it at one input. -/
def fnExactCountSewOrdersWrong : ChangeSpec := { name := "fnExactCountSewOrders", fn := fun _ => fun
  | [d1, d2] => { results := [.lit (.bool false)], args := [d1, d2] }
  | _ => none }
def FnExactCountSewOrdersWrongFalsely : Prop := fnExactCountSewOrdersRow.holds Try.pinned (OpenSpec.ofChange fnExactCountSewOrdersWrong)

/-- 'laws.FnExactIsSewOrder': WHATEVER THE INPUT: true; the input reads as it did. -/
def fnExactIsSewOrderSpec : ChangeSpec := { name := "fnExactIsSewOrder", fn := fun _ => fun
  | [d1, d2, d3] => { results := [.lit (.bool true)], args := [d1, d2, d3] }
  | _ => none }
def fnExactIsSewOrderRow : OpenClaim := { program := "ytlkiacgpiodkiaa", sum := "205ae5548f1a9e305d23855d6419d03b339607743aacc03d0f206ccdcae62676", func := "loop.example/g03304/laws.FnExactIsSewOrder", spec := "fnExactIsSewOrder", apart := false }
def FnExactIsSewOrderSaid : Prop := fnExactIsSewOrderRow.holds Try.pinned (OpenSpec.ofChange fnExactIsSewOrderSpec)

/-- ITS FALSE NEIGHBOUR: 'it returns false'. Refute it at one input. -/
def fnExactIsSewOrderWrong : ChangeSpec := { name := "fnExactIsSewOrder", fn := fun _ => fun
  | [d1, d2, d3] => { results := [.lit (.bool false)], args := [d1, d2, d3] }
  | _ => none }
def FnExactIsSewOrderWrongFalsely : Prop := fnExactIsSewOrderRow.holds Try.pinned (OpenSpec.ofChange fnExactIsSewOrderWrong)

/-- 'laws.FnExactFirstSewOrder': WHATEVER THE INPUT: true; the input reads as it did. -/
def fnExactFirstSewOrderSpec : ChangeSpec := { name := "fnExactFirstSewOrder", fn := fun _ => fun
  | [d1, d2] => { results := [.lit (.bool true)], args := [d1, d2] }
  | _ => none }
def fnExactFirstSewOrderRow : OpenClaim := { program := "ytlkiacgpiodkiaa", sum := "205ae5548f1a9e305d23855d6419d03b339607743aacc03d0f206ccdcae62676", func := "loop.example/g03304/laws.FnExactFirstSewOrder", spec := "fnExactFirstSewOrder", apart := false }
def FnExactFirstSewOrderSaid : Prop := fnExactFirstSewOrderRow.holds Try.pinned (OpenSpec.ofChange fnExactFirstSewOrderSpec)

/-- ITS FALSE NEIGHBOUR: 'it returns false'. Refute it at one input. -/
def fnExactFirstSewOrderWrong : ChangeSpec := { name := "fnExactFirstSewOrder", fn := fun _ => fun
  | [d1, d2] => { results := [.lit (.bool false)], args := [d1, d2] }
  | _ => none }
def FnExactFirstSewOrderWrongFalsely : Prop := fnExactFirstSewOrderRow.holds Try.pinned (OpenSpec.ofChange fnExactFirstSewOrderWrong)

/-- 'laws.FnExactChainRounds': WHATEVER THE INPUT: true; the input reads as it did. -/
def fnExactChainRoundsSpec : ChangeSpec := { name := "fnExactChainRounds", fn := fun _ => fun
  | [d1, d2] => { results := [.lit (.bool true)], args := [d1, d2] }
  | _ => none }
def fnExactChainRoundsRow : OpenClaim := { program := "ytlkiacgpiodkiaa", sum := "205ae5548f1a9e305d23855d6419d03b339607743aacc03d0f206ccdcae62676", func := "loop.example/g03304/laws.FnExactChainRounds", spec := "fnExactChainRounds", apart := false }
def FnExactChainRoundsSaid : Prop := fnExactChainRoundsRow.holds Try.pinned (OpenSpec.ofChange fnExactChainRoundsSpec)

/-- ITS FALSE NEIGHBOUR: 'it returns false'. Refute it at one input. -/
def fnExactChainRoundsWrong : ChangeSpec := { name := "fnExactChainRounds", fn := fun _ => fun
  | [d1, d2] => { results := [.lit (.bool false)], args := [d1, d2] }
  | _ => none }
def FnExactChainRoundsWrongFalsely : Prop := fnExactChainRoundsRow.holds Try.pinned (OpenSpec.ofChange fnExactChainRoundsWrong)

/-- 'laws.FnExactMostChained': WHATEVER THE INPUT: true; the input reads as it did. -/
def fnExactMostChainedSpec : ChangeSpec := { name := "fnExactMostChained", fn := fun _ => fun
  | [d1, d2] => { results := [.lit (.bool true)], args := [d1, d2] }
  | _ => none }
def fnExactMostChainedRow : OpenClaim := { program := "ytlkiacgpiodkiaa", sum := "205ae5548f1a9e305d23855d6419d03b339607743aacc03d0f206ccdcae62676", func := "loop.example/g03304/laws.FnExactMostChained", spec := "fnExactMostChained", apart := false }
def FnExactMostChainedSaid : Prop := fnExactMostChainedRow.holds Try.pinned (OpenSpec.ofChange fnExactMostChainedSpec)

/-- ITS FALSE NEIGHBOUR: 'it returns false'. Refute it at one input. -/
def fnExactMostChainedWrong : ChangeSpec := { name := "fnExactMostChained", fn := fun _ => fun
  | [d1, d2] => { results := [.lit (.bool false)], args := [d1, d2] }
  | _ => none }
def FnExactMostChainedWrongFalsely : Prop := fnExactMostChainedRow.holds Try.pinned (OpenSpec.ofChange fnExactMostChainedWrong)

/- THE SECOND FORM. 'bulk': how many values and letters a reading holds, each counted each time it is reached (what is shared counts as often as it is met; a slice's spare places count too). A statement '..UptoSaid' is the law's where the arguments, and the package variables that the reading takes, are together of bulk at most 1048576: NARROWER than '..Said'. Prove '..Said' where nothing that the law and all that it calls make is longer than what came in: it says more and counts as full. Else prove '..UptoSaid'. A law counts once. -/
mutual
def uptoBulk {H : Type} : DataW H → Nat
  | .lit (.string bytes) => bytes.length + 1
  | .lit _ => 1
  | .nil => 1
  | .ptr d => uptoBulk d + 1
  | .slice elems spare => uptoBulkAll elems + uptoBulkAll spare + 1
  | .agg parts => uptoBulkAll parts + 1
  | .iface _ d => uptoBulk d + 1
  | .map entries => uptoBulkEntries entries + 1
  | .held _ => 1
def uptoBulkAll {H : Type} : List (DataW H) → Nat
  | [] => 0
  | d :: r => uptoBulk d + uptoBulkAll r
def uptoBulkEntries {H : Type} : List (Lit × DataW H) → Nat
  | [] => 0
  | x :: r => uptoBulkEntry x + uptoBulkEntries r
def uptoBulkEntry {H : Type} : Lit × DataW H → Nat
  | (.string bytes, d) => bytes.length + uptoBulk d + 1
  | (_, d) => uptoBulk d + 1
 end
def uptoSmall : (H : Type) → List (DataW H) → Bool := fun _ ds => decide (uptoBulkAll ds ≤ 1048576)
def OpenSpec.upto (s : _root_.Go.ChangeSpec) : _root_.Go.OpenSpec := { _root_.Go.OpenSpec.ofChange s with cond := some uptoSmall }

/-- 'laws.FnSewing', WHERE WHAT IT READS IS OF BULK AT MOST 1048576: true; the input reads as it did. -/
def fnSewingUptoRow : OpenClaim := { program := "ytlkiacgpiodkiaa", sum := "205ae5548f1a9e305d23855d6419d03b339607743aacc03d0f206ccdcae62676", func := "loop.example/g03304/laws.FnSewing", spec := "fnSewing", recurses := true, apart := false, narrowed := true }
def FnSewingUptoSaid : Prop := fnSewingUptoRow.holds Try.pinned (OpenSpec.upto fnSewingSpec)

/-- 'laws.FnExactCountSewOrders', WHERE WHAT IT READS IS OF BULK AT MOST 1048576: true; the input reads as it did. -/
def fnExactCountSewOrdersUptoRow : OpenClaim := { program := "ytlkiacgpiodkiaa", sum := "205ae5548f1a9e305d23855d6419d03b339607743aacc03d0f206ccdcae62676", func := "loop.example/g03304/laws.FnExactCountSewOrders", spec := "fnExactCountSewOrders", apart := false, narrowed := true }
def FnExactCountSewOrdersUptoSaid : Prop := fnExactCountSewOrdersUptoRow.holds Try.pinned (OpenSpec.upto fnExactCountSewOrdersSpec)

/-- 'laws.FnExactIsSewOrder', WHERE WHAT IT READS IS OF BULK AT MOST 1048576: true; the input reads as it did. -/
def fnExactIsSewOrderUptoRow : OpenClaim := { program := "ytlkiacgpiodkiaa", sum := "205ae5548f1a9e305d23855d6419d03b339607743aacc03d0f206ccdcae62676", func := "loop.example/g03304/laws.FnExactIsSewOrder", spec := "fnExactIsSewOrder", apart := false, narrowed := true }
def FnExactIsSewOrderUptoSaid : Prop := fnExactIsSewOrderUptoRow.holds Try.pinned (OpenSpec.upto fnExactIsSewOrderSpec)

/-- 'laws.FnExactFirstSewOrder', WHERE WHAT IT READS IS OF BULK AT MOST 1048576: true; the input reads as it did. -/
def fnExactFirstSewOrderUptoRow : OpenClaim := { program := "ytlkiacgpiodkiaa", sum := "205ae5548f1a9e305d23855d6419d03b339607743aacc03d0f206ccdcae62676", func := "loop.example/g03304/laws.FnExactFirstSewOrder", spec := "fnExactFirstSewOrder", apart := false, narrowed := true }
def FnExactFirstSewOrderUptoSaid : Prop := fnExactFirstSewOrderUptoRow.holds Try.pinned (OpenSpec.upto fnExactFirstSewOrderSpec)

/-- 'laws.FnExactChainRounds', WHERE WHAT IT READS IS OF BULK AT MOST 1048576: true; the input reads as it did. -/
def fnExactChainRoundsUptoRow : OpenClaim := { program := "ytlkiacgpiodkiaa", sum := "205ae5548f1a9e305d23855d6419d03b339607743aacc03d0f206ccdcae62676", func := "loop.example/g03304/laws.FnExactChainRounds", spec := "fnExactChainRounds", apart := false, narrowed := true }
def FnExactChainRoundsUptoSaid : Prop := fnExactChainRoundsUptoRow.holds Try.pinned (OpenSpec.upto fnExactChainRoundsSpec)

/-- 'laws.FnExactMostChained', WHERE WHAT IT READS IS OF BULK AT MOST 1048576: true; the input reads as it did. -/
def fnExactMostChainedUptoRow : OpenClaim := { program := "ytlkiacgpiodkiaa", sum := "205ae5548f1a9e305d23855d6419d03b339607743aacc03d0f206ccdcae62676", func := "loop.example/g03304/laws.FnExactMostChained", spec := "fnExactMostChained", apart := false, narrowed := true }
def FnExactMostChainedUptoSaid : Prop := fnExactMostChainedUptoRow.holds Try.pinned (OpenSpec.upto fnExactMostChainedSpec)

end Rows
end Go.Proofs.Ytlkiacgpiodkiaa
