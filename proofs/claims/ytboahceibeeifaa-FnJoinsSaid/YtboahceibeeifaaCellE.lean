/- Cells: taken from the law's own type, and compared. -/
import Derived.Test.YtboahceibeeifaaCellS

set_option linter.unusedSimpArgs false
set_option linter.unusedVariables false
namespace Go.Proofs.Ytboahceibeeifaa
open Go.ChangeShapes Go.WideShapes Go.ChangeAt Go.RowKit

end Go.Proofs.Ytboahceibeeifaa
