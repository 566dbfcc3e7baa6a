/- Blocks: the model's SameBlock. -/
import Derived.Test.YtfidnhhlcdbaeaaBlkZ
import Derived.BigQuiet
import Derived.Deep.QuietTactic
namespace Go.Proofs.Ytfidnhhlcdbaeaa
open Go.ChangeShapes Go.WideShapes Go.ChangeAt Go.RowKit

noncomputable def sameB (n m : Int) (xs ys : List C3) : Bool := @decide (n = m ∧ xs = ys) (Classical.propDecidable _)
theorem same_yes {n m : Int} {xs ys : List C3} (h : n = m) (k : xs.length = ys.length) (e : ∀ i, i < xs.length → xs.getD i C3.zero = ys.getD i C3.zero) : true = sameB n m xs ys := by
  have hx : xs = ys := by
    apply List.ext_getElem k
    intro i a b
    have := e i a
    simpa [List.getD, a, b] using this
  unfold sameB; simp [h, hx]
theorem same_no {n m : Int} {xs ys : List C3} (h : ¬ (n = m ∧ xs = ys)) : false = sameB n m xs ys := by unfold sameB; simp [h]
theorem same_no_at {n m : Int} {xs ys : List C3} {i : Nat} (h : xs.getD i C3.zero ≠ ys.getD i C3.zero) : false = sameB n m xs ys := same_no (fun k => h (by rw [k.2]))

/-- Two cells differ in a first place, or are one. -/
theorem C3.parts (c d : C3) : ((c.s == d.s) = false ∧ c ≠ d) ∨ (c.s = d.s ∧ (c.a == d.a) = false ∧ c ≠ d) ∨ (c.s = d.s ∧ c.a = d.a ∧ (c.b == d.b) = false ∧ c ≠ d) ∨ c = d := by
  by_cases h1 : c.s = d.s
  · by_cases h2 : c.a = d.a
    · by_cases h3 : c.b = d.b
      · exact .inr (.inr (.inr (C3.ext' h1 h2 h3)))
      · exact .inr (.inr (.inl ⟨h1, h2, by simpa using h3, fun h => h3 (by rw [h])⟩))
    · exact .inr (.inl ⟨h1, by simpa using h2, fun h => h2 (by rw [h])⟩)
  · exact .inl ⟨by simpa using h1, fun h => h1 (by rw [h])⟩

end Go.Proofs.Ytfidnhhlcdbaeaa
