/- Cells: taken from the law's own type, and compared. -/
import Derived.Test.YtakjgnkkeefgbaaCellS
namespace Go.Proofs.Ytakjgnkkeefgbaa
open Go.ChangeShapes Go.WideShapes Go.ChangeAt Go.RowKit

end Go.Proofs.Ytakjgnkkeefgbaa
