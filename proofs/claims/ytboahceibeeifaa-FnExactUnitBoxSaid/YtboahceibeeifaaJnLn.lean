/- Joins: sizes and marks. -/
import Derived.Test.YtboahceibeeifaaJnE
import Derived.Test.YtboahceibeeifaaJnM
import Derived.Test.YtboahceibeeifaaLayN3
import Derived.Test.YtboahceibeeifaaJnN
import Derived.Test.YtboahceibeeifaaLayIk
import Derived.Test.YtboahceibeeifaaLayB
set_option linter.unusedSimpArgs false
set_option linter.unusedVariables false
namespace Go.Proofs.Ytboahceibeeifaa
open Go.ChangeShapes Go.WideShapes Go.ChangeAt Go.RowKit

theorem SzJ_no (a : Option Addr) (len cap : Nat) (left : Int) (w : World) (h0 : 0 ≤ left) (h1 : left ≤ 1048576) (hm : len ≤ 9223372036854775807) (h : left < len) :
    Calls Try.prog 25 #[.slice a len cap, .int .i64 left] w fun e w' => e = .returned (.int .i64 (-1)) ∧ w' = w := by
  have h2 : left - (len : Int) < 0 := by omega
  go_enter Try.func25, Try.ntmps25
  go_wp2_with fail
  go_ret
  exact ⟨rfl, rfl⟩
theorem SzJ_yes (a : Option Addr) (len cap : Nat) (left : Int) (w : World) (h1 : left ≤ 1048576) (h : (len : Int) ≤ left) :
    Calls Try.prog 25 #[.slice a len cap, .int .i64 left] w fun e w' => e = .returned (.int .i64 (left - len)) ∧ w' = w := by
  have h2 : ¬ left - (len : Int) < 0 := by omega
  go_enter Try.func25, Try.ntmps25
  go_wp2_with fail
  go_ret
  exact ⟨rfl, rfl⟩
/-- The number behind the last mark. -/
def mkJ (zs : List J3) : Int := ((1 + 3 * zs.length : Nat) : Int)
theorem mkJ_pos (zs : List J3) : ¬ mkJ zs < 0 := by unfold mkJ; omega
theorem MarkJOne (lo hi : Nat) (v : Value) (zs : List J3) (w : World) (r : JnIn lo hi w v zs) :
    Calls Try.prog 23 #[v, .int .i64 1] w fun e w' => e = .returned (.int .i64 (mkJ zs)) ∧ JnIn lo hi w' v (markJn 1 zs.length) ∧ Within lo hi w w' :=
  MarkJnS_any lo hi v zs 1 w r (by omega)
theorem HeldJOne (lo hi : Nat) (v : Value) (zs : List J3) (w : World) (r : JnIn lo hi w v (markJn 1 zs.length)) :
    Calls Try.prog 24 #[v, .int .i64 1] w fun e w' => e = .returned (.int .i64 (mkJ zs)) ∧ w' = w :=
  HeldJnS_any lo hi v zs.length 1 w r (by omega)

end Go.Proofs.Ytboahceibeeifaa
