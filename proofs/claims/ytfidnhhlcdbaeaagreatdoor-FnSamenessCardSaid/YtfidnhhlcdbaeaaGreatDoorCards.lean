/-
  DERIVED. GIVEN WITH THE SEED: THE CARDS: each row of YtfidnhhlcdbaeaaGreatDoorRows.lean that lists a variable, with what it lists TIED to the program's text (the seventh form; the later family's looks); each row that meets fmt, with fmt's text TOLD by the authors' own Lean function (tested against real Go, not proved from fmt's source: count such statements apart). THE CARD IS WHAT COUNTS. Prove the row's statement (the work); the ties are given (YtfidnhhlcdbaeaaGreatDoorTie.lean); close each card by the builder's one call (the guide's Derived/Test/ToyasCard.lean, 'card_holds'). Laid BY PROGRAM, IN A SANDBOX (cutbox-door.mjs). By AI agents, Wed Nov 11 2026. No macro, syntax, notation, axiom, sorry.
-/
import Derived.Test.YtfidnhhlcdbaeaaGreatDoorRows
import GoSem.ClaimSeven
namespace Go.Proofs.YtfidnhhlcdbaeaaGreatDoor
namespace Rows

/-- THE TIED CARD OF 'laws.FnSameness'. -/
def fnSamenessCard : Claim7 := { stood := { row := fnSamenessRow, standIns := [], harness := (true, "bd09b2f9e307729cbfcc5334e7a09627e87d5fed749d25fff100eb24738e138f"), looks := false }, kinds := [], alts := [], laidByText := true, laidKinds := [.data, .data, .data], laidTests := true, laidLooks := .later }
def FnSamenessCardSaid : Prop := Claim7.holds Tryz.pinned (.plain (OpenSpec.ofChange fnSamenessSpec)) fnSamenessCard

/-- THE SECOND FORM's CARD OF 'laws.FnSameness'. -/
def fnSamenessUptoCard : Claim7 := { stood := { row := fnSamenessUptoRow, standIns := [], harness := (true, "bd09b2f9e307729cbfcc5334e7a09627e87d5fed749d25fff100eb24738e138f"), looks := false }, kinds := [], alts := [], laidByText := true, laidKinds := [.data, .data, .data], laidTests := true, laidLooks := .later }
def FnSamenessUptoCardSaid : Prop := Claim7.holds Tryz.pinned (.plain (OpenSpec.upto fnSamenessSpec)) fnSamenessUptoCard
end Rows
end Go.Proofs.YtfidnhhlcdbaeaaGreatDoor
