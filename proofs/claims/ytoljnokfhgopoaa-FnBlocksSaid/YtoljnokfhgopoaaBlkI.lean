/- Blocks: the contracts of the program's functions, brought together. -/
import Derived.Test.YtoljnokfhgopoaaBlkIa
import Derived.Test.YtoljnokfhgopoaaBlkIc
import Derived.Test.YtoljnokfhgopoaaBlkIp
import Derived.Test.YtoljnokfhgopoaaBlkIq
import Derived.Test.YtoljnokfhgopoaaBlkIu
import Derived.Test.YtoljnokfhgopoaaBlkIw
import Derived.Test.YtoljnokfhgopoaaBlkIx
namespace Go.Proofs.Ytoljnokfhgopoaa
end Go.Proofs.Ytoljnokfhgopoaa
