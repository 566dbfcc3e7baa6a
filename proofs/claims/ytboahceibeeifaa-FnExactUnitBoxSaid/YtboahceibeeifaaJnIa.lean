/- Joins: the program's isUnit and hasUnits. -/
import Derived.Test.YtboahceibeeifaaJnN
import Derived.Test.YtboahceibeeifaaLayIk
import Derived.Test.YtboahceibeeifaaCutT
set_option linter.unusedSimpArgs false
set_option linter.unusedVariables false
namespace Go.Proofs.Ytboahceibeeifaa
open Go.ChangeShapes Go.WideShapes Go.ChangeAt Go.RowKit

theorem IsUnit_any (u : Int) (k : Nat) (w : World) : Calls Try.prog 42 #[.int .i64 u, .int .i64 k] w fun e w' => e = .returned (.bool (decide (InU k u))) ∧ w' = w := by
  unfold InU
  by_cases h0 : 0 ≤ u
  · by_cases h1 : u < (k : Int)
    all_goals
      go_enter Try.func42, Try.ntmps42
      go_wp2_with fail
      go_ret
      exact ⟨ret_bool (by simp [h0, h1]), rfl⟩
  · go_enter Try.func42, Try.ntmps42
    go_wp2_with fail
    go_ret
    exact ⟨ret_bool (decide_eq_false (by omega)).symm, rfl⟩
theorem HasUnits_any (up : Bool) (a b : Int) (k : Nat) (w : World) : Calls Try.prog 43 #[.agg #[.bool up, .int .i64 a, .int .i64 b], .int .i64 k] w fun e w' => e = .returned (.bool (decide (InU k a ∧ InU k b))) ∧ Below w.heap.size w w' := by
  have IA := Lib.hid (fun w => IsUnit_any a k w)
  have IB := Lib.hid (fun w => IsUnit_any b k w)
  by_cases h0 : InU k a
  · rw [show decide (InU k a) = true from decide_eq_true h0] at IA
    have HR : Hid (decide (InU k b) = decide (InU k a ∧ InU k b)) := Lib.hid (by simp [h0])
    rw [← HR.out]
    generalize decide (InU k b) = ok at IB
    clear h0 HR
    go_enter Try.func43, Try.ntmps43
    go_wp2_with fail
    refine (IA.out _).mono ?_
    rintro e w' ⟨rfl, hw⟩
    have hw' := hw.symm
    subst hw'
    clear hw
    go_wp2_with fail
    refine (IB.out _).mono ?_
    rintro e w' ⟨rfl, hw⟩
    have hw' := hw.symm
    subst hw'
    clear hw
    go_wp2_with fail
    go_ret
    exact ⟨rfl, bel0 w _⟩
  · rw [show decide (InU k a) = false from decide_eq_false h0] at IA
    rw [show decide (InU k a ∧ InU k b) = false by simp [h0]]
    clear h0
    go_enter Try.func43, Try.ntmps43
    go_wp2_with fail
    refine (IA.out _).mono ?_
    rintro e w' ⟨rfl, hw⟩
    have hw' := hw.symm
    subst hw'
    clear hw
    go_wp2_with fail
    go_ret
    exact ⟨rfl, bel0 w _⟩

end Go.Proofs.Ytboahceibeeifaa
