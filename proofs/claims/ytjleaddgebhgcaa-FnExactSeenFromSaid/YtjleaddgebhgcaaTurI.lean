/- Turns: the program's contracts. -/
import Derived.Test.YtjleaddgebhgcaaTurIs
namespace Go.Proofs.Ytjleaddgebhgcaa

end Go.Proofs.Ytjleaddgebhgcaa
