/- Cuts: the model's CanSew and CountSeams. -/
import Derived.Test.YtlkiacgpiodkiaaCutSc
import Derived.Test.YtlkiacgpiodkiaaM30
import Derived.Test.YtlkiacgpiodkiaaM31
import Derived.Deep.RegionHeld3
import Derived.Deep.DeepCutAuto

set_option linter.unusedSimpArgs false
set_option linter.unusedVariables false
namespace Go.Proofs.Ytlkiacgpiodkiaa
open Go.ChangeShapes Go.WideShapes Go.ChangeAt Go.RowKit

abbrev set3 (u : World) (p : Nat) (x0 x1 x2 : Value) : World := ((u.setCell ⟨p, 0, none⟩ x0).setCell ⟨p, 1, none⟩ x1).setCell ⟨p, 2, none⟩ x2
theorem set3_far {u : World} {p : Nat} {q : Addr} (h : p ≠ q.block) {x0 x1 x2 : Value} : (set3 u p x0 x1 x2).cell? q = u.cell? q := by
  have hn : ∀ o : Nat, (⟨p, o, none⟩ : Addr) ≠ q := fun o e => h (by rw [← e])
  unfold set3
  rw [World.cell?_setCell_other _ _ _ _ (hn _), World.cell?_setCell_other _ _ _ _ (hn _), World.cell?_setCell_other _ _ _ _ (hn _)]
theorem within3 {u : World} {p : Nat} {x0 x1 x2 : Value} : Within p (p + 1) u (set3 u p x0 x1 x2) := by
  unfold set3
  refine Within.setCell (Within.setCell (Within.setCell (Within.refl _ _ _) ?_ ?_ _) ?_ ?_ _) ?_ ?_ _ <;> simp
theorem row3 {lo hi p : Nat} {u : World} {v x0 x1 x2 : Value} {xs : List P5} (r : PatIn lo hi u v xs) (h : hi ≤ p ∨ p < lo) (hh : hi ≤ u.heap.size) : PatIn lo hi (set3 u p x0 x1 x2) v xs :=
  r.within within3 h hh
theorem BoxL.put3 {p : Nat} {x y z x' y' z' : Value} {u : World} (h : BoxL p x y z u) : BoxL p x' y' z' (set3 u p x' y' z') := by
  obtain ⟨h0, h1, h2, f0, f1, f2⟩ := h
  unfold set3
  refine ⟨?_, ?_, ?_, ?_, ?_, ?_⟩
  · rw [World.cell?_setCell_other _ _ _ _ (by simp), World.cell?_setCell_other _ _ _ _ (by simp)]; exact World.cell?_setCell_same _ _ _ h0
  · rw [World.cell?_setCell_other _ _ _ _ (by simp)]; exact World.cell?_setCell_same _ _ _ ((World.cell?_setCell_other _ _ _ _ (by simp)).trans h1)
  · exact World.cell?_setCell_same _ _ _ ((World.cell?_setCell_other _ _ _ _ (by simp)).trans ((World.cell?_setCell_other _ _ _ _ (by simp)).trans h2))
  all_goals
    rw [World.frozen?_setCell, World.frozen?_setCell, World.frozen?_setCell]
    assumption
theorem BoxL.far3 {p q : Nat} {x y z : Value} {u : World} (h : BoxL p x y z u) (hq : q ≠ p) {x0 x1 x2 : Value} : BoxL p x y z (set3 u q x0 x1 x2) := ((h.far hq _).far hq _).far hq _
/-- Two layouts in boxes of their own. -/
def WL (G : World) (M1 N1 M2 N2 : Int) (L1 L2 : List P5) (q t : Value) (u : World) : Prop :=
  ∃ pA pB vA vB k, q = .pointer (some ⟨pA, 0, none⟩) ∧ t = .pointer (some ⟨pB, 0, none⟩) ∧ Hid (BoxL pA (.int .i64 M1) (.int .i64 N1) vA u) ∧ Hid (BoxL pB (.int .i64 M2) (.int .i64 N2) vB u) ∧
    Hid (PatIn G.heap.size k u vA L1) ∧ Hid (PatIn G.heap.size k u vB L2) ∧ k ≤ u.heap.size ∧ Hid (Below G.heap.size G u)

end Go.Proofs.Ytlkiacgpiodkiaa
