/- Layouts: what the program's LayoutOk asks of one patch; what two have in common. -/
import Derived.Test.YtboahceibeeifaaLayP
import Derived.Test.YtboahceibeeifaaBlkZ

set_option linter.unusedSimpArgs false
set_option linter.unusedVariables false
namespace Go.Proofs.Ytboahceibeeifaa
open Go.ChangeShapes Go.WideShapes Go.ChangeAt Go.RowKit

theorem LenOk_yes (x : Int) (w : World) (h0 : 1 ≤ x) (h1 : x ≤ 12) :
    Calls Try.prog 63 #[.int .i64 x] w fun e w' => e = .returned (.bool true) ∧ w' = w := by
  go_enter Try.func63, Try.ntmps63
  go_wp2
  go_ret
  exact ⟨rfl, rfl⟩
theorem LenOk_no (x : Int) (w : World) (h : x < 1 ∨ 12 < x) :
    Calls Try.prog 63 #[.int .i64 x] w fun e w' => e = .returned (.bool false) ∧ w' = w := by
  by_cases h0 : x < 1
  · clear h
    go_enter Try.func63, Try.ntmps63
    go_wp2
    go_ret
    exact ⟨rfl, rfl⟩
  · have h1 : ¬ x ≤ 12 := by omega
    clear h
    go_enter Try.func63, Try.ntmps63
    go_wp2
    go_ret
    exact ⟨ret_bool (by simp), rfl⟩
theorem ColOk_yes (x : Int) (w : World) (h0 : 0 ≤ x) (h1 : x ≤ 5) :
    Calls Try.prog 73 #[.int .i64 x] w fun e w' => e = .returned (.bool true) ∧ w' = w := by
  have h2 : x < 6 := by omega
  go_enter Try.func73, Try.ntmps73
  go_wp2
  go_ret
  exact ⟨rfl, rfl⟩
theorem ColOk_no (x : Int) (w : World) (h : x < 0 ∨ 5 < x) :
    Calls Try.prog 73 #[.int .i64 x] w fun e w' => e = .returned (.bool false) ∧ w' = w := by
  by_cases h0 : x < 0
  · clear h
    go_enter Try.func73, Try.ntmps73
    go_wp2
    go_ret
    exact ⟨rfl, rfl⟩
  · have h1 : ¬ x < 6 := by omega
    clear h
    go_enter Try.func73, Try.ntmps73
    go_wp2
    go_ret
    exact ⟨ret_bool (by simp), rfl⟩
theorem wf_le {x : Int} (h : (Lit.int .i64 x).wf = true) : -9223372036854775808 ≤ x ∧ x ≤ 9223372036854775807 := by
  simpa [Lit.wf, IntKind.min, IntKind.max, IntKind.bits, IntKind.signed] using h
theorem Lies_yes (s z l : Int) (w : World) (l0 : 1 ≤ l) (l1 : l ≤ 12) (s0 : 0 ≤ s) (z0 : 1 ≤ z) (s1 : s ≤ l - z) :
    Calls Try.prog 72 #[.int .i64 s, .int .i64 z, .int .i64 l] w fun e w' => e = .returned (.bool true) ∧ w' = w := by
  go_enter Try.func72, Try.ntmps72
  go_wp2
  go_ret
  exact ⟨rfl, rfl⟩
theorem Lies_no (s z l : Int) (w : World) (l0 : 1 ≤ l) (l1 : l ≤ 12) (hz : (Lit.int .i64 z).wf = true) (h : ¬ (0 ≤ s ∧ 1 ≤ z ∧ s ≤ l - z)) :
    Calls Try.prog 72 #[.int .i64 s, .int .i64 z, .int .i64 l] w fun e w' => e = .returned (.bool false) ∧ w' = w := by
  obtain ⟨z1, z2⟩ := wf_le hz
  clear hz
  by_cases h0 : 0 ≤ s
  · by_cases h1 : 1 ≤ z
    · have h2 : ¬ s ≤ l - z := fun k => h ⟨h0, h1, k⟩
      clear h
      go_enter Try.func72, Try.ntmps72
      go_wp2
      go_ret
      exact ⟨ret_bool (by simp <;> omega), rfl⟩
    · clear h
      go_enter Try.func72, Try.ntmps72
      go_wp2
      go_ret
      exact ⟨ret_bool (by simp <;> omega), rfl⟩
  · clear h
    go_enter Try.func72, Try.ntmps72
    go_wp2
    go_ret
    exact ⟨ret_bool (by simp <;> omega), rfl⟩

/-- How much two stretches have in common. -/
def cmn (s z s2 z2 : Int) : Int := min (s + z) (s2 + z2) - max s s2
theorem Common_any (s z s2 z2 : Int) (w : World) (a0 : 0 ≤ s) (a1 : 1 ≤ z) (a2 : s + z ≤ 12) (b0 : 0 ≤ s2) (b1 : 1 ≤ z2) (b2 : s2 + z2 ≤ 12) :
    Calls Try.prog 78 #[.int .i64 s, .int .i64 z, .int .i64 s2, .int .i64 z2] w fun e w' => e = .returned (.int .i64 (cmn s z s2 z2)) ∧ w' = w := by
  go_enter Try.func78, Try.ntmps78
  go_wp2
  all_goals
    go_ret
    exact ⟨ret_int (by unfold cmn; omega), rfl⟩

end Go.Proofs.Ytboahceibeeifaa
