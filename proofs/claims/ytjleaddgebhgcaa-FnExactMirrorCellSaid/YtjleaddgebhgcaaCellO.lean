/- Cells by value, opened and shut. -/
import Derived.Test.YtjleaddgebhgcaaRows
import Derived.WalkKit
import Derived.ProofKit
import Derived.OpenShut
import Derived.ShutString
import Derived.Lib.SmallJoins
namespace Go.Proofs.Ytjleaddgebhgcaa
open Go.ChangeShapes Go.WideShapes Go.ChangeAt Go.RowKit Go.Joins

theorem cellsOf_cell : Try.prog.cellsOf 40 = 3 := by kernel_rfl

variable {H : Type} {enc : TypeId × Value → H} {w : World} {base : Nat} {spare : Nat → Bool} {held : Bool}

theorem open_cell {r : Reach} {b0 : Nat} {v : Value} {d : DataW H} {p : List MemPlace} (hv : Value.okWide Try.prog w r b0 40 v) (h : DataW.Trod enc Try.prog w base spare held 40 v d p) :
    ∃ s a b : Int, v = .agg #[.int .i64 s, .int .i64 a, .int .i64 b] ∧ d = .agg [.lit (.int .i64 s), .lit (.int .i64 a), .lit (.int .i64 b)] ∧ p = [] ∧
      (Lit.int .i64 s).wf = true ∧ (Lit.int .i64 a).wf = true ∧ (Lit.int .i64 b).wf = true := by
  obtain ⟨c0, c1, c2, y0, y1, y2, m, rfl, rfl, rfl, hy0, hy1, hy2⟩ := open_agg3 Try.underlying40 (by kernel_rfl) cellsOf_cell hv h
  obtain ⟨s, e0, rfl, ws⟩ := DataW.trod_int Try.underlying3 hy0
  obtain ⟨a, e1, rfl, wa⟩ := DataW.trod_int Try.underlying3 hy1
  obtain ⟨b, e2, rfl, wb⟩ := DataW.trod_int Try.underlying3 hy2
  simp at e0 e1 e2
  subst e0 e1 e2
  exact ⟨s, a, b, rfl, rfl, rfl, ws, wa, wb⟩

theorem shut_cell {s a b : Int} (ws : (Lit.int .i64 s).wf = true) (wa : (Lit.int .i64 a).wf = true) (wb : (Lit.int .i64 b).wf = true) :
    DataW.Trod enc Try.prog w base spare held 40 (.agg #[.int .i64 s, .int .i64 a, .int .i64 b]) (.agg [.lit (.int .i64 s), .lit (.int .i64 a), .lit (.int .i64 b)]) [] :=
  shut_agg3 (y0 := (.lit (.int .i64 s), [])) (y1 := (.lit (.int .i64 a), [])) (y2 := (.lit (.int .i64 b), [])) Try.underlying40 (by kernel_rfl) cellsOf_cell
    ⟨1, by simp [DataW.trod, Try.underlying3, ws]⟩ ⟨1, by simp [DataW.trod, Try.underlying3, wa]⟩ ⟨1, by simp [DataW.trod, Try.underlying3, wb]⟩

end Go.Proofs.Ytjleaddgebhgcaa
