/- Cuts: marks from one on. -/
import Derived.Test.YtakjgnkkeefgbaaCutE
import Derived.Test.YtakjgnkkeefgbaaCutM
import Derived.Test.YtakjgnkkeefgbaaLayN3
namespace Go.Proofs.Ytakjgnkkeefgbaa
open Go.ChangeShapes Go.WideShapes Go.ChangeAt Go.RowKit

/-- The number behind the last mark. -/
def mkC (zs : List C2) : Int := ((1 + 2 * zs.length : Nat) : Int)
theorem mkC_pos (zs : List C2) : ¬ mkC zs < 0 := by unfold mkC; omega
theorem MarkCOne (lo hi : Nat) (v : Value) (zs : List C2) (w : World) (r : CutIn lo hi w v zs) :
    Calls Try.prog 30 #[v, .int .i64 1] w fun e w' => e = .returned (.int .i64 (mkC zs)) ∧ CutIn lo hi w' v (markCut 1 zs.length) ∧ Within lo hi w w' :=
  MarkCutS_any lo hi v zs 1 w r (by omega)
theorem HeldCOne (lo hi : Nat) (v : Value) (zs : List C2) (w : World) (r : CutIn lo hi w v (markCut 1 zs.length)) :
    Calls Try.prog 31 #[v, .int .i64 1] w fun e w' => e = .returned (.int .i64 (mkC zs)) ∧ w' = w :=
  HeldCutS_any lo hi v zs.length 1 w r (by omega)

end Go.Proofs.Ytakjgnkkeefgbaa
