/- Rows of cells: taken from the law's own type. -/
import Derived.Test.YtboahceibeeifaaBlkR
import Derived.Test.YtboahceibeeifaaCellE
import Derived.WalkSmall
import Derived.BigQuiet
import Derived.Outline
import Derived.IntWalk
import Derived.OwnWalk

set_option linter.unusedSimpArgs false
set_option linter.unusedVariables false
namespace Go.Proofs.Ytboahceibeeifaa
open Go.ChangeShapes Go.WideShapes Go.ChangeAt Go.RowKit

theorem info_parts3 {P : Program} {t : TypeId} {z : Value} {n b : Nat} (h : (P.info? t).map (fun i => (i.zero, i.size, i.bytes)) = some (some z, n, b)) :
    ∃ i, P.info? t = some i ∧ i.zero = some z ∧ i.size = n ∧ i.bytes = b := by
  cases e : P.info? t with
  | none => rw [e] at h; cases h
  | some i => rw [e] at h; simp at h; exact ⟨i, rfl, h.1, h.2.1, h.2.2⟩

/-- A slice of cells that came in: its elements are read one by one, wherever they lie. -/
def ArgC (w : World) (a : Option Addr) (len : Nat) (xs : List C3) : Prop :=
  xs.length = len ∧ len ≤ maxLen ∧ (len = 0 ∨ ∃ xb xo, a = some ⟨xb, xo, none⟩ ∧ xb < w.heap.size ∧ ∀ i, i < len →
    w.cell? ⟨xb, xo + i * 3, none⟩ = some (.int .i64 (xs.getD i C3.zero).s) ∧ w.cell? ⟨xb, xo + i * 3 + 1, none⟩ = some (.int .i64 (xs.getD i C3.zero).a) ∧ w.cell? ⟨xb, xo + i * 3 + 2, none⟩ = some (.int .i64 (xs.getD i C3.zero).b))
theorem ArgC.below {w w' : World} {a : Option Addr} {len : Nat} {xs : List C3} (h : ArgC w a len xs) (hb : Below w.heap.size w w') : ArgC w' a len xs := by
  obtain ⟨h1, h2, h | ⟨xb, xo, ha, hlt, hc⟩⟩ := h
  · exact ⟨h1, h2, .inl h⟩
  · refine ⟨h1, h2, .inr ⟨xb, xo, ha, Nat.lt_of_lt_of_le hlt hb.size, fun i hi => ?_⟩⟩
    obtain ⟨c0, c1, c2⟩ := hc i hi
    exact ⟨(hb.cell (p := ⟨xb, _, none⟩) hlt).trans c0, (hb.cell (p := ⟨xb, _, none⟩) hlt).trans c1, (hb.cell (p := ⟨xb, _, none⟩) hlt).trans c2⟩

/-- A new row of cells is handed back. -/
def FreshC (xs : List C3) (w : World) (e : Ending) (w' : World) : Prop := ∃ v, e = .returned v ∧ CellIn w.heap.size w'.heap.size w' v xs ∧ Below w.heap.size w w'

/-- The first k elements are those of the list. -/
def UpTo (k : Nat) (xs ys : List C3) : Prop := ys.length = xs.length ∧ ∀ i, i < k → ys.getD i C3.zero = xs.getD i C3.zero
theorem UpTo.set {k : Nat} {xs ys : List C3} (h : UpTo k xs ys) (hk : k < xs.length) {c : C3} (hc : c = xs.getD k C3.zero) : UpTo (k + 1) xs (ys.set k c) := by
  obtain ⟨h1, h2⟩ := h
  refine ⟨by simpa using h1, fun i hi => ?_⟩
  by_cases e : i = k
  · subst e; simp [List.getD, h1, hk] at hc ⊢; exact hc
  · have := h2 i (by omega)
    simpa [List.getD, List.getElem?_set, e, Ne.symm e] using this
theorem UpTo.all {xs ys : List C3} (h : UpTo xs.length xs ys) : ys = xs := by
  obtain ⟨h1, h2⟩ := h
  apply List.ext_getElem h1
  intro i a b
  have := h2 i b
  simpa [List.getD, a, b] using this

theorem own_none {w w' : World} (h : w.grownBy w' none) : Below w.heap.size w w' := (Below.refl _ _).grown h (Nat.le_refl _) (by intro k hk; cases hk)

end Go.Proofs.Ytboahceibeeifaa
