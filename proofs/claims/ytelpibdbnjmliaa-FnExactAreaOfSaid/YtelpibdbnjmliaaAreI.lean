/- Areas: all contracts of the program. -/
import Derived.Test.YtelpibdbnjmliaaAreIa
import Derived.Test.YtelpibdbnjmliaaAreIo
import Derived.Test.YtelpibdbnjmliaaAreIt
import Derived.Test.YtelpibdbnjmliaaAreIw
import Derived.Test.YtelpibdbnjmliaaAreIb
import Derived.Test.YtelpibdbnjmliaaAreIn
namespace Go.Proofs.Ytelpibdbnjmliaa

end Go.Proofs.Ytelpibdbnjmliaa
