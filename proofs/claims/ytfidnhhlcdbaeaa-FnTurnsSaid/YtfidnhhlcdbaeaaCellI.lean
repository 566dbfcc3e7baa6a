/- Cells: the program's CellOk. -/
import Derived.Test.YtfidnhhlcdbaeaaCellS
namespace Go.Proofs.Ytfidnhhlcdbaeaa
open Go.ChangeShapes Go.WideShapes Go.ChangeAt Go.RowKit

theorem Color_yes (x : Int) (w : World) (h0 : 0 ≤ x) (h1 : x ≤ 5) :
    Calls Try.prog 52 #[.int .i64 x] w fun e w' => e = .returned (.bool true) ∧ w' = w := by
  have h2 : x < 6 := by omega
  go_enter Try.func52, Try.ntmps52
  go_wp2
  go_ret
  exact ⟨rfl, rfl⟩

theorem Color_no (x : Int) (w : World) (h : x < 0 ∨ 5 < x) :
    Calls Try.prog 52 #[.int .i64 x] w fun e w' => e = .returned (.bool false) ∧ w' = w := by
  by_cases h0 : 0 ≤ x
  · have h1 : ¬ x < 6 := by omega
    clear h
    go_enter Try.func52, Try.ntmps52
    go_wp2
    go_ret
    exact ⟨ret_bool (by simp), rfl⟩
  · clear h
    go_enter Try.func52, Try.ntmps52
    go_wp2
    go_ret
    exact ⟨rfl, rfl⟩

theorem ImplOk_any (s a b : Int) (w : World) :
    Calls Try.prog 27 #[.agg #[.int .i64 s, .int .i64 a, .int .i64 b]] w fun e w' => e = .returned (.bool (decide (OkC s a b))) ∧ w' = w.alloc (.cells #[.int .i64 s, .int .i64 a, .int .i64 b] 29) := by
  by_cases s0 : s < 0
  · go_enter Try.func27, Try.ntmps27
    go_wp2_with fail
    go_ret
    exact ⟨ret_bool (decide_eq_false (by unfold OkC; omega)).symm, rfl⟩
  by_cases s1 : 2 < s
  · go_enter Try.func27, Try.ntmps27
    go_wp2_with fail
    go_ret
    exact ⟨ret_bool (decide_eq_false (by unfold OkC; omega)).symm, rfl⟩
  by_cases h2 : 0 ≤ a ∧ a ≤ 5
  · obtain ⟨a0, a1⟩ := h2
    by_cases h3 : 0 ≤ b ∧ b ≤ 5
    · obtain ⟨b0, b1⟩ := h3
      go_enter Try.func27, Try.ntmps27
      go_wp2_with (refine (Color_yes _ _ (by assumption) (by assumption)).mono ?_; rintro e w' ⟨rfl, rfl⟩)
      go_ret
      exact ⟨ret_bool (okB (by omega) (by omega) a0 a1 b0 b1).symm, rfl⟩
    · have h3' : b < 0 ∨ 5 < b := by omega
      clear h3
      go_enter Try.func27, Try.ntmps27
      go_wp2_with (first | (refine (Color_yes _ _ (by assumption) (by assumption)).mono ?_; rintro e w' ⟨rfl, rfl⟩) | (refine (Color_no _ _ (by assumption)).mono ?_; rintro e w' ⟨rfl, rfl⟩))
      go_ret
      exact ⟨ret_bool (decide_eq_false (by unfold OkC; omega)).symm, rfl⟩
  · have h2' : a < 0 ∨ 5 < a := by omega
    clear h2
    go_enter Try.func27, Try.ntmps27
    go_wp2_with (first | (refine (Color_yes _ _ (by assumption) (by assumption)).mono ?_; rintro e w' ⟨rfl, rfl⟩) | (refine (Color_no _ _ (by assumption)).mono ?_; rintro e w' ⟨rfl, rfl⟩))
    go_ret
    exact ⟨ret_bool (decide_eq_false (by unfold OkC; omega)).symm, rfl⟩

end Go.Proofs.Ytfidnhhlcdbaeaa
