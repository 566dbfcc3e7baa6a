/- Cells: compared by their fields. -/
import Derived.Test.YtfidnhhlcdbaeaaCellS
namespace Go.Proofs.Ytfidnhhlcdbaeaa
open Go.ChangeShapes Go.WideShapes Go.ChangeAt Go.RowKit

theorem EqCell_same (s a b : Int) (w : World) :
    Calls Try.prog 57 #[.agg #[.int .i64 s, .int .i64 a, .int .i64 b], .agg #[.int .i64 s, .int .i64 a, .int .i64 b]] w fun e w' => e = .returned (.bool true) ∧ Below w.heap.size w w' := by
  go_enter Try.func57, Try.ntmps57
  go_wp2
  go_ret
  exact ⟨rfl, ((Below.refl _ _).alloc (Nat.le_refl _) _).alloc (by simp) _⟩

end Go.Proofs.Ytfidnhhlcdbaeaa
