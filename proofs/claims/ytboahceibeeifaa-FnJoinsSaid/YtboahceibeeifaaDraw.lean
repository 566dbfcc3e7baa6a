/- More of what is drawn: a chance, one of a list, a number. -/
import Derived.Test.YtboahceibeeifaaDrawN

set_option linter.unusedSimpArgs false
set_option linter.unusedVariables false
namespace Go.Proofs.Ytboahceibeeifaa
open Go.ChangeShapes Go.WideShapes Go.ChangeAt Go.RowKit

theorem Once_any (b : Nat) (a : Option Addr) (len cap : Nat) (n : Int) (w : World) (hcur : Cur w b a len cap) (h0 : 0 < n) (h1 : n ≤ 9223372036854775807) :
    Calls Try.prog 55 #[.pointer (some ⟨b, 0, none⟩), .int .i64 n] w (DrawnB b a len cap w) := by
  go_enter Try.func55, Try.ntmps55
  go_wp2_with (go_at_call 54; refine (Below_any b a len cap _ _ hcur h0 h1).mono ?_; rintro e w' ⟨x, ⟨x0, x1⟩, rfl, hcur1, hb1⟩)
  go_ret
  exact ⟨_, rfl, hcur1, hb1⟩

/-- The list of a pick: its elements are cells outside block b. -/
def Ints (w : World) (b : Nat) (xb : Nat) (zs : List Int) : Prop :=
  xb ≠ b ∧ ∀ i, i < zs.length → w.cell? ⟨xb, i, none⟩ = some (.int .i64 (zs.getD i 0))

/-- An int64. -/
def I64 (x : Int) : Prop := -9223372036854775808 ≤ x ∧ x ≤ 9223372036854775807

end Go.Proofs.Ytboahceibeeifaa
