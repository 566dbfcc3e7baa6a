/- Rows of cuts: taken from the law's own type. -/
import Derived.Test.YtboahceibeeifaaCutR
import Derived.Test.YtboahceibeeifaaBlkT
import Derived.WalkSmall
import Derived.BigQuiet
import Derived.Outline
import Derived.IntWalk
import Derived.OwnWalk

set_option linter.unusedSimpArgs false
set_option linter.unusedVariables false
namespace Go.Proofs.Ytboahceibeeifaa
open Go.ChangeShapes Go.WideShapes Go.ChangeAt Go.RowKit

theorem info_Cut : (Try.prog.info? 71).map (fun i => (i.zero, i.size, i.bytes)) = some (some (.agg #[.bool false, .int .i64 0]), 2, 16) := by kernel_rfl

/-- A slice of them that came in: its elements are read one by one, wherever they lie. -/
def ArgCut (w : World) (a : Option Addr) (len : Nat) (xs : List C2) : Prop :=
  xs.length = len ∧ len ≤ maxLen ∧ (len = 0 ∨ ∃ xb xo, a = some ⟨xb, xo, none⟩ ∧ xb < w.heap.size ∧ ∀ i, i < len →
    w.cell? ⟨xb, xo + i * 2, none⟩ = some (.bool (xs.getD i C2.zero).up) ∧ w.cell? ⟨xb, xo + i * 2 + 1, none⟩ = some (.int .i64 (xs.getD i C2.zero).a))
theorem ArgCut.below {w w' : World} {a : Option Addr} {len : Nat} {xs : List C2} (h : ArgCut w a len xs) (hb : Below w.heap.size w w') : ArgCut w' a len xs := by
  obtain ⟨h1, h2, h | ⟨xb, xo, ha, hlt, hc⟩⟩ := h
  · exact ⟨h1, h2, .inl h⟩
  · refine ⟨h1, h2, .inr ⟨xb, xo, ha, Nat.lt_of_lt_of_le hlt hb.size, fun i hi => ?_⟩⟩
    obtain ⟨c0, c1⟩ := hc i hi
    exact ⟨(hb.cell (p := ⟨xb, _, none⟩) hlt).trans c0, (hb.cell (p := ⟨xb, _, none⟩) hlt).trans c1⟩

/-- A new row is handed back. -/
def FreshCut (xs : List C2) (w : World) (e : Ending) (w' : World) : Prop := ∃ v, e = .returned v ∧ CutIn w.heap.size w'.heap.size w' v xs ∧ Below w.heap.size w w'

/-- The first k elements are those of the list. -/
def UpCut (k : Nat) (xs ys : List C2) : Prop := ys.length = xs.length ∧ ∀ i, i < k → ys.getD i C2.zero = xs.getD i C2.zero
theorem UpCut.set {k : Nat} {xs ys : List C2} (h : UpCut k xs ys) (hk : k < xs.length) {c : C2} (hc : c = xs.getD k C2.zero) : UpCut (k + 1) xs (ys.set k c) := by
  obtain ⟨h1, h2⟩ := h
  refine ⟨by simpa using h1, fun i hi => ?_⟩
  by_cases e : i = k
  · subst e; simp [List.getD, h1, hk] at hc ⊢; exact hc
  · have := h2 i (by omega)
    simpa [List.getD, List.getElem?_set, e, Ne.symm e] using this
theorem UpCut.all {xs ys : List C2} (h : UpCut xs.length xs ys) : ys = xs := by
  obtain ⟨h1, h2⟩ := h
  apply List.ext_getElem h1
  intro i a b
  have := h2 i b
  simpa [List.getD, a, b] using this

end Go.Proofs.Ytboahceibeeifaa
