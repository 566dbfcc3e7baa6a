/- Layouts by value, opened: what a law is told of one that came in. -/
import Derived.Test.YtboahceibeeifaaPatO
set_option linter.unusedSimpArgs false
set_option linter.unusedVariables false
namespace Go.Proofs.Ytboahceibeeifaa
open Go.ChangeShapes Go.WideShapes Go.ChangeAt Go.RowKit Go.Joins Go.Deep

theorem cellsOf_layout : Try.prog.cellsOf 43 = 3 := by kernel_rfl

variable {H : Type} {enc : TypeId × Value → H} {w : World} {base : Nat} {spare : Nat → Bool} {held : Bool}

set_option maxRecDepth 100000 in
theorem open_layout {r : Reach} {b0 : Nat} {v : Value} {d : DataW H} {p : List MemPlace} (hv : Value.okWide Try.prog w r b0 43 v) (h : DataW.Trod enc Try.prog w base spare held 43 v d p) :
    ∃ (m n : Int) (a : Option Addr) (len cap : Nat) (xs : List P5), v = .agg #[.int .i64 m, .int .i64 n, .slice a len cap] ∧ (Lit.int .i64 m).wf = true ∧ (Lit.int .i64 n).wf = true ∧ ArgPat w a len xs ∧ ∀ c ∈ xs, c.Wf := by
  obtain ⟨c0, c1, c2, y0, y1, y2, k, rfl, rfl, rfl, hy0, hy1, hy2⟩ := open_agg3 Try.underlying43 (by kernel_rfl) cellsOf_layout hv h
  obtain ⟨m, e0, _, wm⟩ := DataW.trod_int Try.underlying3 hy0
  obtain ⟨n, e1, _, wn⟩ := DataW.trod_int Try.underlying3 hy1
  obtain ⟨a, len, cap, xs, hc, hx⟩ := openPatS hy2
  simp at e0 e1
  subst e0 e1 hc
  exact ⟨m, n, a, len, cap, xs, rfl, wm, wn, hx⟩

end Go.Proofs.Ytboahceibeeifaa
