/- The walk of FnExactInverseOf. -/
import Derived.Test.YtbnokmlmajcibaaM21
import Derived.Test.YtbnokmlmajcibaaM05

namespace Go.Proofs.Ytbnokmlmajcibaa
open Go.ChangeShapes Go.WideShapes Go.ChangeAt Go.RowKit

theorem InvLaw_walk (k : Int) (w : World) :
    Calls Try.prog 7 #[.int .i64 k] w fun e w' => e = .returned (.bool true) ∧ Below w.heap.size w w' := by
  have CS := SpecInv_any k w
  have CI := ImplInv_any k w
  generalize invI k = p at CS CI
  go_enter Try.func7, Try.ntmps7
  go_wp2_with fail
  refine CS.mono ?_
  rintro e uu ⟨rfl, huu⟩
  have huu := huu.symm
  subst huu
  go_wp2_with fail
  refine CI.mono ?_
  rintro e uu ⟨rfl, huu⟩
  have huu := huu.symm
  subst huu
  go_wp2_with fail
  go_ret
  exact ⟨rfl, Below.refl _ _⟩

end Go.Proofs.Ytbnokmlmajcibaa
