/- Cells: the model's WholeCell. -/
import Derived.Test.YtfidnhhlcdbaeaaCellS
namespace Go.Proofs.Ytfidnhhlcdbaeaa
open Go.ChangeShapes Go.WideShapes Go.ChangeAt Go.RowKit

/-- The color of a whole cell. -/
def wh (a : Int) : Int := if 0 ≤ a ∧ a ≤ 5 then a else 0
theorem wh_yes {a : Int} (h : 0 ≤ a ∧ a ≤ 5) : wh a = a := if_pos h
theorem wh_no {a : Int} (h : ¬ (0 ≤ a ∧ a ≤ 5)) : wh a = 0 := if_neg h

theorem SpecWhole_any (a : Int) (w : World) :
    Calls Try.prog 59 #[.int .i64 a] w fun e w' => e = .returned (.agg #[.int .i64 0, .int .i64 (wh a), .int .i64 (wh a)]) ∧ w' = w.alloc (.cells #[.int .i64 0, .int .i64 (wh a), .int .i64 (wh a)] 29) := by
  by_cases h : 0 ≤ a ∧ a ≤ 5
  · rw [wh_yes h]
    obtain ⟨a0, a1⟩ := h
    go_enter Try.func59, Try.ntmps59
    go_wp2_with (refine (In_yes _ _ _ _ (by assumption) (by assumption)).mono ?_; rintro e w' ⟨rfl, rfl⟩)
    exact bodyPost_ret (v := .agg #[.int .i64 0, .int .i64 a, .int .i64 a]) (by simp [results, Try.results59, go_sem]) rfl ⟨rfl, rfl⟩
  · rw [wh_no h]
    have h' : a < 0 ∨ 5 < a := by omega
    clear h
    go_enter Try.func59, Try.ntmps59
    go_wp2_with (refine (In_no _ _ _ _ (by assumption)).mono ?_; rintro e w' ⟨rfl, rfl⟩)
    exact bodyPost_ret (v := .agg #[.int .i64 0, .int .i64 0, .int .i64 0]) (by simp [results, Try.results59, go_sem]) rfl ⟨rfl, rfl⟩

end Go.Proofs.Ytfidnhhlcdbaeaa
