/-
  DERIVED. GIVEN WITH THE SEED: THE CARDS: each row of YtfidnhhlcdbaeaaDoorRows.lean that lists a variable, with what it lists TIED to the program's text (the seventh form; the later family's looks); each row that meets fmt, with fmt's text TOLD by the authors' own Lean function (tested against real Go, not proved from fmt's source: count such statements apart). THE CARD IS WHAT COUNTS. Prove the row's statement (the work); the ties are given (YtfidnhhlcdbaeaaDoorTie.lean); close each card by the builder's one call (the guide's Derived/Test/ToyasCard.lean, 'card_holds'). Laid BY PROGRAM, IN A SANDBOX (cutbox-door.mjs). By AI agents, Wed Nov 11 2026. No macro, syntax, notation, axiom, sorry.
-/
import Derived.Test.YtfidnhhlcdbaeaaDoorRows
import GoSem.ClaimSeven
namespace Go.Proofs.YtfidnhhlcdbaeaaDoor
namespace Rows

/-- THE TIED CARD OF 'laws.FnExactLeastForm'. -/
def fnExactLeastFormCard : Claim7 := { stood := { row := fnExactLeastFormRow, standIns := [], harness := (true, "aaf29b4ea85db00543bb2943d32d001a14e5f08eaec49a09a392f7df5bdcc58e"), looks := false }, kinds := [], alts := [], laidByText := true, laidKinds := [.data, .data, .data], laidTests := true, laidLooks := .later }
def FnExactLeastFormCardSaid : Prop := Claim7.holds Tryd.pinned (.plain (OpenSpec.ofChange fnExactLeastFormSpec)) fnExactLeastFormCard

/-- THE TIED CARD OF 'laws.FnExactLeastPattern'. -/
def fnExactLeastPatternCard : Claim7 := { stood := { row := fnExactLeastPatternRow, standIns := [], harness := (true, "aaf29b4ea85db00543bb2943d32d001a14e5f08eaec49a09a392f7df5bdcc58e"), looks := false }, kinds := [], alts := [], laidByText := true, laidKinds := [.data, .data, .data], laidTests := true, laidLooks := .later }
def FnExactLeastPatternCardSaid : Prop := Claim7.holds Tryd.pinned (.plain (OpenSpec.ofChange fnExactLeastPatternSpec)) fnExactLeastPatternCard

/-- THE TIED CARD OF 'laws.FnExactAreSame'. -/
def fnExactAreSameCard : Claim7 := { stood := { row := fnExactAreSameRow, standIns := [], harness := (true, "aaf29b4ea85db00543bb2943d32d001a14e5f08eaec49a09a392f7df5bdcc58e"), looks := false }, kinds := [], alts := [], laidByText := true, laidKinds := [.data, .data, .data], laidTests := true, laidLooks := .later }
def FnExactAreSameCardSaid : Prop := Claim7.holds Tryd.pinned (.plain (OpenSpec.ofChange fnExactAreSameSpec)) fnExactAreSameCard

/-- THE TIED CARD OF 'laws.FnExactArePatternsSame'. -/
def fnExactArePatternsSameCard : Claim7 := { stood := { row := fnExactArePatternsSameRow, standIns := [], harness := (true, "aaf29b4ea85db00543bb2943d32d001a14e5f08eaec49a09a392f7df5bdcc58e"), looks := false }, kinds := [], alts := [], laidByText := true, laidKinds := [.data, .data, .data], laidTests := true, laidLooks := .later }
def FnExactArePatternsSameCardSaid : Prop := Claim7.holds Tryd.pinned (.plain (OpenSpec.ofChange fnExactArePatternsSameSpec)) fnExactArePatternsSameCard

/-- THE TIED CARD OF 'laws.FnExactCountForms'. -/
def fnExactCountFormsCard : Claim7 := { stood := { row := fnExactCountFormsRow, standIns := [], harness := (true, "aaf29b4ea85db00543bb2943d32d001a14e5f08eaec49a09a392f7df5bdcc58e"), looks := false }, kinds := [], alts := [], laidByText := true, laidKinds := [.data, .data, .data], laidTests := true, laidLooks := .later }
def FnExactCountFormsCardSaid : Prop := Claim7.holds Tryd.pinned (.plain (OpenSpec.ofChange fnExactCountFormsSpec)) fnExactCountFormsCard

/-- THE SECOND FORM's CARD OF 'laws.FnExactLeastForm'. -/
def fnExactLeastFormUptoCard : Claim7 := { stood := { row := fnExactLeastFormUptoRow, standIns := [], harness := (true, "aaf29b4ea85db00543bb2943d32d001a14e5f08eaec49a09a392f7df5bdcc58e"), looks := false }, kinds := [], alts := [], laidByText := true, laidKinds := [.data, .data, .data], laidTests := true, laidLooks := .later }
def FnExactLeastFormUptoCardSaid : Prop := Claim7.holds Tryd.pinned (.plain (OpenSpec.upto fnExactLeastFormSpec)) fnExactLeastFormUptoCard

/-- THE SECOND FORM's CARD OF 'laws.FnExactLeastPattern'. -/
def fnExactLeastPatternUptoCard : Claim7 := { stood := { row := fnExactLeastPatternUptoRow, standIns := [], harness := (true, "aaf29b4ea85db00543bb2943d32d001a14e5f08eaec49a09a392f7df5bdcc58e"), looks := false }, kinds := [], alts := [], laidByText := true, laidKinds := [.data, .data, .data], laidTests := true, laidLooks := .later }
def FnExactLeastPatternUptoCardSaid : Prop := Claim7.holds Tryd.pinned (.plain (OpenSpec.upto fnExactLeastPatternSpec)) fnExactLeastPatternUptoCard

/-- THE SECOND FORM's CARD OF 'laws.FnExactAreSame'. -/
def fnExactAreSameUptoCard : Claim7 := { stood := { row := fnExactAreSameUptoRow, standIns := [], harness := (true, "aaf29b4ea85db00543bb2943d32d001a14e5f08eaec49a09a392f7df5bdcc58e"), looks := false }, kinds := [], alts := [], laidByText := true, laidKinds := [.data, .data, .data], laidTests := true, laidLooks := .later }
def FnExactAreSameUptoCardSaid : Prop := Claim7.holds Tryd.pinned (.plain (OpenSpec.upto fnExactAreSameSpec)) fnExactAreSameUptoCard

/-- THE SECOND FORM's CARD OF 'laws.FnExactArePatternsSame'. -/
def fnExactArePatternsSameUptoCard : Claim7 := { stood := { row := fnExactArePatternsSameUptoRow, standIns := [], harness := (true, "aaf29b4ea85db00543bb2943d32d001a14e5f08eaec49a09a392f7df5bdcc58e"), looks := false }, kinds := [], alts := [], laidByText := true, laidKinds := [.data, .data, .data], laidTests := true, laidLooks := .later }
def FnExactArePatternsSameUptoCardSaid : Prop := Claim7.holds Tryd.pinned (.plain (OpenSpec.upto fnExactArePatternsSameSpec)) fnExactArePatternsSameUptoCard

/-- THE SECOND FORM's CARD OF 'laws.FnExactCountForms'. -/
def fnExactCountFormsUptoCard : Claim7 := { stood := { row := fnExactCountFormsUptoRow, standIns := [], harness := (true, "aaf29b4ea85db00543bb2943d32d001a14e5f08eaec49a09a392f7df5bdcc58e"), looks := false }, kinds := [], alts := [], laidByText := true, laidKinds := [.data, .data, .data], laidTests := true, laidLooks := .later }
def FnExactCountFormsUptoCardSaid : Prop := Claim7.holds Tryd.pinned (.plain (OpenSpec.upto fnExactCountFormsSpec)) fnExactCountFormsUptoCard
end Rows
end Go.Proofs.YtfidnhhlcdbaeaaDoor
