/- The walk of FnExactProductOf. -/
import Derived.Test.YtbnokmlmajcibaaM21
import Derived.Test.YtbnokmlmajcibaaM05

namespace Go.Proofs.Ytbnokmlmajcibaa
open Go.ChangeShapes Go.WideShapes Go.ChangeAt Go.RowKit

theorem ProdLaw_walk (i k : Int) (w : World) :
    Calls Try.prog 6 #[.int .i64 i, .int .i64 k] w fun e w' => e = .returned (.bool true) ∧ Below w.heap.size w w' := by
  have CS := SpecProd_any i k w
  have CI := ImplProd_any i k w
  generalize prodI i k = p at CS CI
  go_enter Try.func6, Try.ntmps6
  go_wp2_with fail
  refine CS.mono ?_
  rintro e uu ⟨rfl, huu⟩
  have huu := huu.symm
  subst huu
  go_wp2_with fail
  refine CI.mono ?_
  rintro e uu ⟨rfl, huu⟩
  have huu := huu.symm
  subst huu
  go_wp2_with fail
  go_ret
  exact ⟨rfl, Below.refl _ _⟩

end Go.Proofs.Ytbnokmlmajcibaa
