/- One digit: the program's FormatInt. -/
import Derived.Test.YtbfkpjciphkbeaaDoorRows
import Derived.WalkKit
import Derived.ProofKit
import Derived.OpenShut
import Derived.WalkSmall
import Derived.Outline
import Derived.IntWalk
import Derived.Lib.Hide
import Derived.ShutString
namespace Go.Proofs.YtbfkpjciphkbeaaDoor
open Go.ChangeShapes Go.WideShapes Go.ChangeAt Go.RowKit

/-- The text of one digit. -/
def dgt (n : Int) : ByteArray := ⟨#[UInt8.ofNat (48 + n.toNat)]⟩
theorem dgt_size (n : Int) : (dgt n).size = 1 := rfl

theorem digits10 {n : Int} (h0 : 0 ≤ n) (h1 : n ≤ 9) : n = 0 ∨ n = 1 ∨ n = 2 ∨ n = 3 ∨ n = 4 ∨ n = 5 ∨ n = 6 ∨ n = 7 ∨ n = 8 ∨ n = 9 := by omega

set_option maxHeartbeats 1000000 in
theorem Small_any (n : Int) (w : World) (h0 : 0 ≤ n) (h1 : n ≤ 9) :
    Calls Tryd.prog 30 #[.int .i64 n] w fun e w' => e = .returned (.string (dgt n)) ∧ w' = w := by
  rcases digits10 h0 h1 with rfl | rfl | rfl | rfl | rfl | rfl | rfl | rfl | rfl | rfl
  all_goals
    clear h0 h1
    go_enter Tryd.func30, Tryd.ntmps30
    go_wp2
    go_ret
    exact ⟨rfl, rfl⟩

theorem Fmt10_any (n : Int) (w : World) (h0 : 0 ≤ n) (h1 : n ≤ 9) :
    Calls Tryd.prog 29 #[.int .i64 n, .int .i64 10] w fun e w' => e = .returned (.string (dgt n)) ∧ w' = w := by
  have h2 : n < 100 := by omega
  have HS := fun w => Small_any n w h0 h1
  clear h1
  go_enter Tryd.func29, Tryd.ntmps29
  go_wp2_with fail
  refine (HS _).mono ?_
  rintro e w' ⟨rfl, rfl⟩
  go_wp2_with fail
  go_ret
  exact ⟨rfl, rfl⟩

theorem ItoaIn_any (n : Int) (w : World) (h0 : 0 ≤ n) (h1 : n ≤ 9) :
    Calls Tryd.prog 28 #[.int .i64 n] w fun e w' => e = .returned (.string (dgt n)) ∧ w' = w := by
  have h2 : n < 100 := by omega
  have HS := fun w => Fmt10_any n w h0 h1
  clear h1
  go_enter Tryd.func28, Tryd.ntmps28
  go_wp2_with fail
  refine (HS _).mono ?_
  rintro e w' ⟨rfl, rfl⟩
  go_wp2_with fail
  go_ret
  exact ⟨rfl, rfl⟩

theorem Itoa_any (n : Int) (w : World) (h0 : 0 ≤ n) (h1 : n ≤ 9) :
    Calls Tryd.prog 23 #[.int .i64 n] w fun e w' => e = .returned (.string (dgt n)) ∧ w' = w := by
  have h2 : n < 100 := by omega
  have HS := fun w => ItoaIn_any n w h0 h1
  clear h1
  go_enter Tryd.func23, Tryd.ntmps23
  go_wp2_with fail
  refine (HS _).mono ?_
  rintro e w' ⟨rfl, rfl⟩
  go_wp2_with fail
  go_ret
  exact ⟨rfl, rfl⟩

theorem ImplDigit_any (n : Int) (w : World) (h0 : 0 ≤ n) (h1 : n ≤ 9) :
    Calls Tryd.prog 17 #[.int .i64 n] w fun e w' => e = .returned (.string (dgt n)) ∧ w' = w := by
  have h2 : n < 100 := by omega
  have HS := fun w => Itoa_any n w h0 h1
  clear h1
  go_enter Tryd.func17, Tryd.ntmps17
  go_wp2_with fail
  refine (HS _).mono ?_
  rintro e w' ⟨rfl, rfl⟩
  go_wp2_with fail
  go_ret
  exact ⟨rfl, rfl⟩

end Go.Proofs.YtbfkpjciphkbeaaDoor
