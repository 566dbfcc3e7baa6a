/- Rows of integers: searched, and compared, by the laws' own helpers. -/
import Derived.Test.YtelpibdbnjmliaaIntF
import Derived.ProofKit
import Derived.OpenShut
import Derived.WalkSmall
import Derived.BigQuiet
import Derived.Deep.QuietTactic
import Derived.Outline
import Derived.IntWalk
namespace Go.Proofs.Ytelpibdbnjmliaa
open Go.ChangeShapes Go.WideShapes Go.ChangeAt Go.RowKit

set_option maxHeartbeats 400000 in
theorem Has_yes (lo hi : Nat) (v : Value) (zs : List Int) (z : Int) (w : World) (r : IntIn lo hi w v zs) (hz : z ∈ zs) :
    Calls Try.prog 15 #[v, .int .i64 z] w fun e w' => e = .returned (.bool true) ∧ w' = w := by
  obtain ⟨a1, c1, rfl⟩ := r.form
  have R := Lib.hid r
  have HZ := Lib.hid hz
  have hl := r.1
  clear r hz
  go_enter Try.func15, Try.ntmps15
  go_wp2_with fail
  go_loop [5] (fun i => ∃ k : Nat, k ≤ zs.length ∧ i = .int .i64 k ∧ Hid (∀ j, j < k → ¬ zs.getD j 0 = z)) (fun i => zs.length - (intOf i).toNat)
  case atStart => exact ⟨0, Nat.zero_le _, rfl, fun j hj => by omega⟩
  case round =>
    obtain ⟨k, hk, rfl, hno⟩ := hrel
    by_cases hlt : k < zs.length
    · obtain ⟨g, rfl, _, _, e0, _⟩ := R.out.at (Below.refl _ _) hlt
      by_cases he : zs.getD k 0 = z
      · rw [he] at e0
        clear he
        go_wp2_with fail
        go_ret
        exact ⟨rfl, rfl⟩
      · have HN : Hid (∀ j, j < k + 1 → ¬ zs.getD j 0 = z) := Lib.hid (fun j hj => by
          rcases Nat.lt_succ_iff_lt_or_eq.1 hj with h | rfl
          · exact hno.out j h
          · exact he)
        have hb : (zs.getD k 0 == z) = false := by simpa using he
        generalize zs.getD k 0 = c at e0 hb
        clear he hno
        go_wp2_with fail
        go_round
        case rel => exact ⟨k + 1, by omega, by go_num, HN⟩
        case measure => simp [intOf] <;> omega
    · obtain rfl : k = zs.length := by omega
      obtain ⟨j, hj, hjz⟩ := List.getElem_of_mem HZ.out
      exact absurd (by simpa [List.getD, hj] using hjz) (hno.out j hj)

end Go.Proofs.Ytelpibdbnjmliaa
