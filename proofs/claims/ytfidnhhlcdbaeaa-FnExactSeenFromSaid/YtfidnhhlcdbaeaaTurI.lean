/- Turns: the program's contracts. -/
import Derived.Test.YtfidnhhlcdbaeaaTurIs
namespace Go.Proofs.Ytfidnhhlcdbaeaa

end Go.Proofs.Ytfidnhhlcdbaeaa
