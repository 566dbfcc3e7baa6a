/- Areas: the program's CellArea. -/
import Derived.Test.YtfidnhhlcdbaeaaCellI
import Derived.Test.YtfidnhhlcdbaeaaAreF
import Derived.Test.YtfidnhhlcdbaeaaBlkZ
namespace Go.Proofs.Ytfidnhhlcdbaeaa
open Go.ChangeShapes Go.WideShapes Go.ChangeAt Go.RowKit

theorem ImplCellOk_yes (s a b : Int) (w : World) (h : OkC s a b) :
    Calls Try.prog 27 #[.agg #[.int .i64 s, .int .i64 a, .int .i64 b]] w fun e w' => e = .returned (.bool true) ∧ Below w.heap.size w w' :=
  (ImplOk_any s a b w).mono fun e w' ⟨he, hw⟩ => ⟨by rw [he]; simp [h], by rw [hw]; exact bel0 _ _⟩
theorem ImplCellOk_no (s a b : Int) (w : World) (h : ¬ OkC s a b) :
    Calls Try.prog 27 #[.agg #[.int .i64 s, .int .i64 a, .int .i64 b]] w fun e w' => e = .returned (.bool false) ∧ Below w.heap.size w w' :=
  (ImplOk_any s a b w).mono fun e w' ⟨he, hw⟩ => ⟨by rw [he]; simp [h], by rw [hw]; exact bel0 _ _⟩
end Go.Proofs.Ytfidnhhlcdbaeaa
