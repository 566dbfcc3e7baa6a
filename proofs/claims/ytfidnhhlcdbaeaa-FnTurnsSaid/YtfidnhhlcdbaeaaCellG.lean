/- Cells: the color at a side. -/
import Derived.Test.YtfidnhhlcdbaeaaCellS
namespace Go.Proofs.Ytfidnhhlcdbaeaa
open Go.ChangeShapes Go.WideShapes Go.ChangeAt Go.RowKit

/-- The color at a side. -/
def colAt (s a b d : Int) : Int := if OkC s a b ∧ 0 ≤ d ∧ d ≤ 3 then (if d = 0 ∨ (d = 1 ∧ s = 1) ∨ (d = 3 ∧ s = 2) then a else b) else -1

theorem colAt_bad {s a b : Int} (d : Int) (k : ¬ OkC s a b) : colAt s a b d = -1 := if_neg (fun h => k h.1)
theorem colAt_out {d : Int} (s a b : Int) (k : d < 0 ∨ 3 < d) : colAt s a b d = -1 := if_neg (fun h => by omega)
theorem colAt_a {s a b d : Int} (k : OkC s a b) (d0 : 0 ≤ d) (d1 : d ≤ 3) (h : d = 0 ∨ (d = 1 ∧ s = 1) ∨ (d = 3 ∧ s = 2)) : colAt s a b d = a := by
  unfold colAt; rw [if_pos ⟨k, d0, d1⟩, if_pos h]
theorem colAt_b {s a b d : Int} (k : OkC s a b) (d0 : 0 ≤ d) (d1 : d ≤ 3) (h : ¬ (d = 0 ∨ (d = 1 ∧ s = 1) ∨ (d = 3 ∧ s = 2))) : colAt s a b d = b := by
  unfold colAt; rw [if_pos ⟨k, d0, d1⟩, if_neg h]

theorem ret_num {a b : Int} (h : a = b) : Ending.returned (.int .i64 a) = .returned (.int .i64 b) := by rw [h]

/-- What is left when a cell is valid and a side is there: the four sides, the three kinds. -/
theorem side_cases {d : Int} (d0 : 0 ≤ d) (d1 : d ≤ 3) : d = 0 ∨ d = 1 ∨ d = 2 ∨ d = 3 := by omega

end Go.Proofs.Ytfidnhhlcdbaeaa
