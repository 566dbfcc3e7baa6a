/- Blocks by value, opened: what a law is told of a block that came in. -/
import Derived.Test.YtlkiacgpiodkiaaM02
import Derived.OpenShut
import Derived.ShutString
import Derived.Lib.SmallJoins
import Derived.Deep.Slices
import Derived.Deep.Strs

set_option linter.unusedSimpArgs false
set_option linter.unusedVariables false
namespace Go.Proofs.Ytlkiacgpiodkiaa
open Go.ChangeShapes Go.WideShapes Go.ChangeAt Go.RowKit Go.Joins Go.Deep

theorem cellsOf_int : Try.prog.cellsOf 3 = 1 := by kernel_rfl
instance : Inhabited C3 := ⟨C3.zero⟩
theorem list_of {n : Nat} {p : Nat → C3 → Prop} (h : ∀ i, i < n → ∃ x, p i x) : ∃ xs : List C3, xs.length = n ∧ ∀ i, i < n → p i (xs.getD i C3.zero) := by
  obtain ⟨f, hf⟩ := choose_lt h
  exact ⟨(List.range n).map f, by simp, fun i hi => by simpa [List.getD, hi] using hf i hi⟩

variable {H : Type} {enc : TypeId × Value → H} {w : World} {base : Nat} {spare : Nat → Bool} {held : Bool}

end Go.Proofs.Ytlkiacgpiodkiaa
