/- Turns: the program's viewOk and isMirrorView. -/
import Derived.Test.YtfidnhhlcdbaeaaCellS
namespace Go.Proofs.Ytfidnhhlcdbaeaa
open Go.ChangeShapes Go.WideShapes Go.ChangeAt Go.RowKit

theorem ViewOk_yes (k : Int) (w : World) (h0 : 0 ≤ k) (h7 : k ≤ 7) :
    Calls Try.prog 32 #[.int .i64 k] w fun e w' => e = .returned (.bool true) ∧ w' = w := by
  have h8 : k < 8 := by omega
  go_enter Try.func32, Try.ntmps32
  go_wp2
  go_ret
  exact ⟨rfl, rfl⟩
theorem ViewOk_no (k : Int) (w : World) (h : k < 0 ∨ 7 < k) :
    Calls Try.prog 32 #[.int .i64 k] w fun e w' => e = .returned (.bool false) ∧ w' = w := by
  by_cases h0 : k < 0
  · clear h
    go_enter Try.func32, Try.ntmps32
    go_wp2
    go_ret
    exact ⟨rfl, rfl⟩
  · have h1 : ¬ k < 8 := by omega
    clear h
    go_enter Try.func32, Try.ntmps32
    go_wp2
    go_ret
    exact ⟨ret_bool (by simp <;> omega), rfl⟩
theorem MirV_any (k : Int) (w : World) :
    Calls Try.prog 34 #[.int .i64 k] w fun e w' => e = .returned (.bool (decide (4 ≤ k))) ∧ w' = w := by
  go_enter Try.func34, Try.ntmps34
  go_wp2
  go_ret
  exact ⟨rfl, rfl⟩
theorem MirV_yes (k : Int) (w : World) (h : 4 ≤ k) :
    Calls Try.prog 34 #[.int .i64 k] w fun e w' => e = .returned (.bool true) ∧ w' = w := by
  have := MirV_any k w
  rw [decide_eq_true h] at this
  exact this
theorem MirV_no (k : Int) (w : World) (h : ¬ 4 ≤ k) :
    Calls Try.prog 34 #[.int .i64 k] w fun e w' => e = .returned (.bool false) ∧ w' = w := by
  have := MirV_any k w
  rw [decide_eq_false h] at this
  exact this

end Go.Proofs.Ytfidnhhlcdbaeaa
