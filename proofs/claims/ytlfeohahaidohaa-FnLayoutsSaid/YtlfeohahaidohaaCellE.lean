/- Cells: taken from the law's own type, and compared. -/
import Derived.Test.YtlfeohahaidohaaCellS
namespace Go.Proofs.Ytlfeohahaidohaa
open Go.ChangeShapes Go.WideShapes Go.ChangeAt Go.RowKit

end Go.Proofs.Ytlfeohahaidohaa
