/- Cells: the model's and the program's CellOk answer alike. -/
import Derived.Test.YtboahceibeeifaaRows
import Derived.WalkKit
import Derived.ProofKit
import Derived.OpenShut
import Derived.WalkSmall
import Derived.BigQuiet
import Derived.Deep.QuietTactic
import Derived.Outline
import Derived.IntWalk
import Derived.Lib.Hide
import Derived.ShutString

set_option linter.unusedSimpArgs false
set_option linter.unusedVariables false
namespace Go.Proofs.Ytboahceibeeifaa
open Go.ChangeShapes Go.WideShapes Go.ChangeAt Go.RowKit

/-- A cell is valid: what is asked of its three numbers. -/
def OkC (s a b : Int) : Prop := (0 ≤ s ∧ s ≤ 2) ∧ (0 ≤ a ∧ a ≤ 5) ∧ (0 ≤ b ∧ b ≤ 5) ∧ (s = 0 ↔ a = b)
instance (s a b : Int) : Decidable (OkC s a b) := by unfold OkC; exact inferInstance

theorem ret_bool {a b : Bool} (h : a = b) : Ending.returned (.bool a) = .returned (.bool b) := by rw [h]

theorem In_yes (x lo hi : Int) (w : World) (h0 : lo ≤ x) (h1 : x ≤ hi) :
    Calls Try.prog 52 #[.int .i64 x, .int .i64 lo, .int .i64 hi] w fun e w' => e = .returned (.bool true) ∧ w' = w := by
  go_enter Try.func52, Try.ntmps52
  go_wp2
  go_ret
  exact ⟨rfl, rfl⟩

theorem In_no (x lo hi : Int) (w : World) (h : x < lo ∨ hi < x) :
    Calls Try.prog 52 #[.int .i64 x, .int .i64 lo, .int .i64 hi] w fun e w' => e = .returned (.bool false) ∧ w' = w := by
  by_cases h0 : x < lo
  · clear h
    go_enter Try.func52, Try.ntmps52
    go_wp2
    go_ret
    exact ⟨rfl, rfl⟩
  · have h1 : ¬ x ≤ hi := by omega
    clear h
    go_enter Try.func52, Try.ntmps52
    go_wp2
    go_ret
    exact ⟨ret_bool (by simp), rfl⟩

theorem okB {s a b : Int} (s0 : 0 ≤ s) (s1 : s ≤ 2) (a0 : 0 ≤ a) (a1 : a ≤ 5) (b0 : 0 ≤ b) (b1 : b ≤ 5) : decide (OkC s a b) = ((s == 0) == (a == b)) := by
  by_cases h4 : s = 0
  all_goals
    by_cases h5 : a = b
    all_goals
      first
      | (rw [decide_eq_true (show OkC s a b by unfold OkC; omega), beq_eq_false_iff_ne.2 h4, beq_eq_false_iff_ne.2 h5]; rfl)
      | (rw [decide_eq_true (show OkC s a b by unfold OkC; omega)]; simp [h4, h5])
      | (rw [decide_eq_false (show ¬ OkC s a b by unfold OkC; omega)]; simp [h4, h5])

end Go.Proofs.Ytboahceibeeifaa
