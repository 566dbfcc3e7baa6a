/- Cells: a small helper of the laws. -/
import Derived.Test.YtelpibdbnjmliaaCellZd
namespace Go.Proofs.Ytelpibdbnjmliaa
open Go.ChangeShapes Go.WideShapes Go.ChangeAt Go.RowKit

theorem Btoi_any (x : Bool) (w : World) :
    Calls Try.prog 20 #[.bool x] w fun e w' => e = .returned (.int .i64 (if x then 1 else 0)) ∧ w' = w := by
  cases x
  all_goals
    go_enter Try.func20, Try.ntmps20
    go_wp2
    go_ret
    exact ⟨rfl, rfl⟩

end Go.Proofs.Ytelpibdbnjmliaa
