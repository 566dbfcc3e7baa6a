/- Cuts by value, opened: what a law is told of one that came in. -/
import Derived.Test.YtakjgnkkeefgbaaLayO
import Derived.Test.YtakjgnkkeefgbaaCutF
namespace Go.Proofs.Ytakjgnkkeefgbaa
open Go.ChangeShapes Go.WideShapes Go.ChangeAt Go.RowKit Go.Joins Go.Deep

theorem cellsOf_lcut : Try.prog.cellsOf 44 = 2 := by kernel_rfl
variable {H : Type} {enc : TypeId × Value → H} {w : World} {base : Nat} {spare : Nat → Bool} {held : Bool}

set_option maxRecDepth 100000 in
theorem open_cut {r : Reach} {b0 : Nat} {v : Value} {d : DataW H} {p : List MemPlace} (hv : Value.okWide Try.prog w r b0 44 v) (h : DataW.Trod enc Try.prog w base spare held 44 v d p) :
    ∃ (b : Bool) (a : Int), v = .agg #[.bool b, .int .i64 a] ∧ (Lit.int .i64 a).wf = true := by
  obtain ⟨c0, c1, y0, y1, k, rfl, rfl, rfl, hy0, hy1⟩ := open_agg2 Try.underlying44 (by kernel_rfl) cellsOf_lcut hv h
  obtain ⟨b, e0, _⟩ := DataW.trod_bool Try.underlying4 hy0
  obtain ⟨a, e1, _, wa⟩ := DataW.trod_int Try.underlying3 hy1
  simp at e0 e1
  subst e0 e1
  exact ⟨b, a, rfl, wa⟩

end Go.Proofs.Ytakjgnkkeefgbaa
