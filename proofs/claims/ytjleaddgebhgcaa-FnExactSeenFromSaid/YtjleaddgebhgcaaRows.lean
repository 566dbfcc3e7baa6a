/-
  No cell of these rows narrows 'for every input' (looked for: loops, veiled, ifaces, maps, wideKeys, modest, calm, conditions, laid).
  DERIVED. THE GIVEN ROWS OF THIS SEAT. 6 by the template 'for every input the law returns true; each argument reads behind the call as it read before'; 0 by the template 'total and deterministic' (their statements: YtjleaddgebhgcaaTotals.lean).
  GIVEN WITH THE SEED: the statements are not yours to turn. If you find one false, say at which input.
  Laid BY PROGRAM, IN A SANDBOX (cutbox-rows.mjs): the forced cells as the released guide's own fill.sh prints them over the translation e54b838e9b4cdbe1… (all of the seat's roots in one cut). By AI agents, Wed Nov 11 2026. No macro, syntax, notation, axiom, sorry.
-/
import Derived.Test.YtjleaddgebhgcaaChecked
import GoSem.Claim
import GoSem.ClaimJoined
import GoSem.ClaimMapViews
import Derived.JoinedTies
import Derived.KernelRfl
namespace Go.Proofs.Ytjleaddgebhgcaa
/- THE CELL 'sum', in the pinned program and in every row, IS THE sha256 OF THE DUMP (.gsa) THAT YtjleaddgebhgcaaProg.lean LOADS. Nothing in Lean hashes anything: it is a label: what it is worth is what the hold of that sum in a sandbox is worth. -/
noncomputable def Try.pinned : Pinned := { name := "ytjleaddgebhgcaa", sum := "e54b838e9b4cdbe1bc6a138a43c4a7e04cb2a656bc0d9661c573194d2981cc8b", checked := Try.checked }
namespace Rows
def none {H : Type} : Left H := { results := [], args := [] }

/-- 'laws.FnTurns': WHATEVER THE INPUT: true; the input reads as it did. -/
def fnTurnsSpec : ChangeSpec := { name := "fnTurns", fn := fun _ => fun
  | [d] => { results := [.lit (.bool true)], args := [d] }
  | _ => none }
def fnTurnsRow : OpenClaim := { program := "ytjleaddgebhgcaa", sum := "e54b838e9b4cdbe1bc6a138a43c4a7e04cb2a656bc0d9661c573194d2981cc8b", func := "loop.example/g03304/laws.FnTurns", spec := "fnTurns", unfollowed := true, recurses := true, apart := false }
def FnTurnsSaid : Prop := fnTurnsRow.holds Try.pinned (OpenSpec.ofChange fnTurnsSpec)

/-- ITS FALSE NEIGHBOUR: 'it returns false'. Refute it at one input. -/
def fnTurnsWrong : ChangeSpec := { name := "fnTurns", fn := fun _ => fun
  | [d] => { results := [.lit (.bool false)], args := [d] }
  | _ => none }
def FnTurnsWrongFalsely : Prop := fnTurnsRow.holds Try.pinned (OpenSpec.ofChange fnTurnsWrong)

/-- 'laws.FnExactTurnCell': WHATEVER THE INPUT: true; the input reads as it did. -/
def fnExactTurnCellSpec : ChangeSpec := { name := "fnExactTurnCell", fn := fun _ => fun
  | [d] => { results := [.lit (.bool true)], args := [d] }
  | _ => none }
def fnExactTurnCellRow : OpenClaim := { program := "ytjleaddgebhgcaa", sum := "e54b838e9b4cdbe1bc6a138a43c4a7e04cb2a656bc0d9661c573194d2981cc8b", func := "loop.example/g03304/laws.FnExactTurnCell", spec := "fnExactTurnCell", apart := false }
def FnExactTurnCellSaid : Prop := fnExactTurnCellRow.holds Try.pinned (OpenSpec.ofChange fnExactTurnCellSpec)

/-- ITS FALSE NEIGHBOUR: 'it returns false'. Refute it at one input. -/
def fnExactTurnCellWrong : ChangeSpec := { name := "fnExactTurnCell", fn := fun _ => fun
  | [d] => { results := [.lit (.bool false)], args := [d] }
  | _ => none }
def FnExactTurnCellWrongFalsely : Prop := fnExactTurnCellRow.holds Try.pinned (OpenSpec.ofChange fnExactTurnCellWrong)

/-- 'laws.FnExactMirrorCell': WHATEVER THE INPUT: true; the input reads as it did. -/
def fnExactMirrorCellSpec : ChangeSpec := { name := "fnExactMirrorCell", fn := fun _ => fun
  | [d] => { results := [.lit (.bool true)], args := [d] }
  | _ => none }
def fnExactMirrorCellRow : OpenClaim := { program := "ytjleaddgebhgcaa", sum := "e54b838e9b4cdbe1bc6a138a43c4a7e04cb2a656bc0d9661c573194d2981cc8b", func := "loop.example/g03304/laws.FnExactMirrorCell", spec := "fnExactMirrorCell", apart := false }
def FnExactMirrorCellSaid : Prop := fnExactMirrorCellRow.holds Try.pinned (OpenSpec.ofChange fnExactMirrorCellSpec)

/-- ITS FALSE NEIGHBOUR: 'it returns false'. Refute it at one input. -/
def fnExactMirrorCellWrong : ChangeSpec := { name := "fnExactMirrorCell", fn := fun _ => fun
  | [d] => { results := [.lit (.bool false)], args := [d] }
  | _ => none }
def FnExactMirrorCellWrongFalsely : Prop := fnExactMirrorCellRow.holds Try.pinned (OpenSpec.ofChange fnExactMirrorCellWrong)

/-- 'laws.FnExactTurnBlock': WHATEVER THE INPUT: true; the input reads as it did. -/
def fnExactTurnBlockSpec : ChangeSpec := { name := "fnExactTurnBlock", fn := fun _ => fun
  | [d] => { results := [.lit (.bool true)], args := [d] }
  | _ => none }
def fnExactTurnBlockRow : OpenClaim := { program := "ytjleaddgebhgcaa", sum := "e54b838e9b4cdbe1bc6a138a43c4a7e04cb2a656bc0d9661c573194d2981cc8b", func := "loop.example/g03304/laws.FnExactTurnBlock", spec := "fnExactTurnBlock", unfollowed := true, recurses := true, apart := false }
def FnExactTurnBlockSaid : Prop := fnExactTurnBlockRow.holds Try.pinned (OpenSpec.ofChange fnExactTurnBlockSpec)

/-- ITS FALSE NEIGHBOUR: 'it returns false'. Refute it at one input. -/
def fnExactTurnBlockWrong : ChangeSpec := { name := "fnExactTurnBlock", fn := fun _ => fun
  | [d] => { results := [.lit (.bool false)], args := [d] }
  | _ => none }
def FnExactTurnBlockWrongFalsely : Prop := fnExactTurnBlockRow.holds Try.pinned (OpenSpec.ofChange fnExactTurnBlockWrong)

/-- 'laws.FnExactMirrorBlock': WHATEVER THE INPUT: true; the input reads as it did. -/
def fnExactMirrorBlockSpec : ChangeSpec := { name := "fnExactMirrorBlock", fn := fun _ => fun
  | [d] => { results := [.lit (.bool true)], args := [d] }
  | _ => none }
def fnExactMirrorBlockRow : OpenClaim := { program := "ytjleaddgebhgcaa", sum := "e54b838e9b4cdbe1bc6a138a43c4a7e04cb2a656bc0d9661c573194d2981cc8b", func := "loop.example/g03304/laws.FnExactMirrorBlock", spec := "fnExactMirrorBlock", unfollowed := true, recurses := true, apart := false }
def FnExactMirrorBlockSaid : Prop := fnExactMirrorBlockRow.holds Try.pinned (OpenSpec.ofChange fnExactMirrorBlockSpec)

/-- ITS FALSE NEIGHBOUR: 'it returns false'. Refute it at one input. -/
def fnExactMirrorBlockWrong : ChangeSpec := { name := "fnExactMirrorBlock", fn := fun _ => fun
  | [d] => { results := [.lit (.bool false)], args := [d] }
  | _ => none }
def FnExactMirrorBlockWrongFalsely : Prop := fnExactMirrorBlockRow.holds Try.pinned (OpenSpec.ofChange fnExactMirrorBlockWrong)

/-- 'laws.FnExactSeenFrom': WHATEVER THE INPUT: true; the input reads as it did. -/
def fnExactSeenFromSpec : ChangeSpec := { name := "fnExactSeenFrom", fn := fun _ => fun
  | [d1, d2] => { results := [.lit (.bool true)], args := [d1, d2] }
  | _ => none }
def fnExactSeenFromRow : OpenClaim := { program := "ytjleaddgebhgcaa", sum := "e54b838e9b4cdbe1bc6a138a43c4a7e04cb2a656bc0d9661c573194d2981cc8b", func := "loop.example/g03304/laws.FnExactSeenFrom", spec := "fnExactSeenFrom", unfollowed := true, recurses := true, apart := false }
def FnExactSeenFromSaid : Prop := fnExactSeenFromRow.holds Try.pinned (OpenSpec.ofChange fnExactSeenFromSpec)

/-- ITS FALSE NEIGHBOUR: 'it returns false'. Refute it at one input. -/
def fnExactSeenFromWrong : ChangeSpec := { name := "fnExactSeenFrom", fn := fun _ => fun
  | [d1, d2] => { results := [.lit (.bool false)], args := [d1, d2] }
  | _ => none }
def FnExactSeenFromWrongFalsely : Prop := fnExactSeenFromRow.holds Try.pinned (OpenSpec.ofChange fnExactSeenFromWrong)

/- THE SECOND FORM. 'bulk': how many values and letters a reading holds, each counted each time it is reached (what is shared counts as often as it is met; a slice's spare places count too). A statement '..UptoSaid' is the law's where the arguments, and the package variables that the reading takes, are together of bulk at most 1048576: NARROWER than '..Said'. Prove '..Said' where nothing that the law and all that it calls make is longer than what came in: it says more and counts as full. Else prove '..UptoSaid'. A law counts once. -/
mutual
def uptoBulk {H : Type} : DataW H → Nat
  | .lit (.string bytes) => bytes.length + 1
  | .lit _ => 1
  | .nil => 1
  | .ptr d => uptoBulk d + 1
  | .slice elems spare => uptoBulkAll elems + uptoBulkAll spare + 1
  | .agg parts => uptoBulkAll parts + 1
  | .iface _ d => uptoBulk d + 1
  | .map entries => uptoBulkEntries entries + 1
  | .held _ => 1
def uptoBulkAll {H : Type} : List (DataW H) → Nat
  | [] => 0
  | d :: r => uptoBulk d + uptoBulkAll r
def uptoBulkEntries {H : Type} : List (Lit × DataW H) → Nat
  | [] => 0
  | x :: r => uptoBulkEntry x + uptoBulkEntries r
def uptoBulkEntry {H : Type} : Lit × DataW H → Nat
  | (.string bytes, d) => bytes.length + uptoBulk d + 1
  | (_, d) => uptoBulk d + 1
 end
def uptoSmall : (H : Type) → List (DataW H) → Bool := fun _ ds => decide (uptoBulkAll ds ≤ 1048576)
def OpenSpec.upto (s : _root_.Go.ChangeSpec) : _root_.Go.OpenSpec := { _root_.Go.OpenSpec.ofChange s with cond := some uptoSmall }

/-- 'laws.FnTurns', WHERE WHAT IT READS IS OF BULK AT MOST 1048576: true; the input reads as it did. -/
def fnTurnsUptoRow : OpenClaim := { program := "ytjleaddgebhgcaa", sum := "e54b838e9b4cdbe1bc6a138a43c4a7e04cb2a656bc0d9661c573194d2981cc8b", func := "loop.example/g03304/laws.FnTurns", spec := "fnTurns", unfollowed := true, recurses := true, apart := false, narrowed := true }
def FnTurnsUptoSaid : Prop := fnTurnsUptoRow.holds Try.pinned (OpenSpec.upto fnTurnsSpec)

/-- 'laws.FnExactTurnCell', WHERE WHAT IT READS IS OF BULK AT MOST 1048576: true; the input reads as it did. -/
def fnExactTurnCellUptoRow : OpenClaim := { program := "ytjleaddgebhgcaa", sum := "e54b838e9b4cdbe1bc6a138a43c4a7e04cb2a656bc0d9661c573194d2981cc8b", func := "loop.example/g03304/laws.FnExactTurnCell", spec := "fnExactTurnCell", apart := false, narrowed := true }
def FnExactTurnCellUptoSaid : Prop := fnExactTurnCellUptoRow.holds Try.pinned (OpenSpec.upto fnExactTurnCellSpec)

/-- 'laws.FnExactMirrorCell', WHERE WHAT IT READS IS OF BULK AT MOST 1048576: true; the input reads as it did. -/
def fnExactMirrorCellUptoRow : OpenClaim := { program := "ytjleaddgebhgcaa", sum := "e54b838e9b4cdbe1bc6a138a43c4a7e04cb2a656bc0d9661c573194d2981cc8b", func := "loop.example/g03304/laws.FnExactMirrorCell", spec := "fnExactMirrorCell", apart := false, narrowed := true }
def FnExactMirrorCellUptoSaid : Prop := fnExactMirrorCellUptoRow.holds Try.pinned (OpenSpec.upto fnExactMirrorCellSpec)

/-- 'laws.FnExactTurnBlock', WHERE WHAT IT READS IS OF BULK AT MOST 1048576: true; the input reads as it did. -/
def fnExactTurnBlockUptoRow : OpenClaim := { program := "ytjleaddgebhgcaa", sum := "e54b838e9b4cdbe1bc6a138a43c4a7e04cb2a656bc0d9661c573194d2981cc8b", func := "loop.example/g03304/laws.FnExactTurnBlock", spec := "fnExactTurnBlock", unfollowed := true, recurses := true, apart := false, narrowed := true }
def FnExactTurnBlockUptoSaid : Prop := fnExactTurnBlockUptoRow.holds Try.pinned (OpenSpec.upto fnExactTurnBlockSpec)

/-- 'laws.FnExactMirrorBlock', WHERE WHAT IT READS IS OF BULK AT MOST 1048576: true; the input reads as it did. -/
def fnExactMirrorBlockUptoRow : OpenClaim := { program := "ytjleaddgebhgcaa", sum := "e54b838e9b4cdbe1bc6a138a43c4a7e04cb2a656bc0d9661c573194d2981cc8b", func := "loop.example/g03304/laws.FnExactMirrorBlock", spec := "fnExactMirrorBlock", unfollowed := true, recurses := true, apart := false, narrowed := true }
def FnExactMirrorBlockUptoSaid : Prop := fnExactMirrorBlockUptoRow.holds Try.pinned (OpenSpec.upto fnExactMirrorBlockSpec)

/-- 'laws.FnExactSeenFrom', WHERE WHAT IT READS IS OF BULK AT MOST 1048576: true; the input reads as it did. -/
def fnExactSeenFromUptoRow : OpenClaim := { program := "ytjleaddgebhgcaa", sum := "e54b838e9b4cdbe1bc6a138a43c4a7e04cb2a656bc0d9661c573194d2981cc8b", func := "loop.example/g03304/laws.FnExactSeenFrom", spec := "fnExactSeenFrom", unfollowed := true, recurses := true, apart := false, narrowed := true }
def FnExactSeenFromUptoSaid : Prop := fnExactSeenFromUptoRow.holds Try.pinned (OpenSpec.upto fnExactSeenFromSpec)

end Rows
end Go.Proofs.Ytjleaddgebhgcaa
