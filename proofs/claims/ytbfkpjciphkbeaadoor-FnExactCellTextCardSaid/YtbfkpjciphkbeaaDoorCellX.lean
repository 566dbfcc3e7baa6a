/- Cells: the walk of FnExactCellText. -/
import Derived.Test.YtbfkpjciphkbeaaDoorCellT
import Derived.Test.YtbfkpjciphkbeaaDoorCellE
namespace Go.Proofs.YtbfkpjciphkbeaaDoor
open Go.ChangeShapes Go.WideShapes Go.ChangeAt Go.RowKit

theorem cells_old {u w' : World} {x y z : Value} {T : TypeId} (h : Below (u.heap.size + 1) (u.alloc (.cells #[x, y, z] T)) w') :
    w'.cell? ⟨u.heap.size, 0, none⟩ = some x ∧ w'.cell? ⟨u.heap.size, 1, none⟩ = some y ∧ w'.cell? ⟨u.heap.size, 2, none⟩ = some z := by
  have hk : ∀ (o : Nat), w'.cell? ⟨u.heap.size, o, none⟩ = (u.alloc (.cells #[x, y, z] T)).cell? ⟨u.heap.size, o, none⟩ := fun o => World.cell?_of_block (h.block _ (by simp))
  refine ⟨(hk 0).trans ?_, (hk 1).trans ?_, (hk 2).trans ?_⟩ <;> simp

theorem TextLaw_walk (s a b : Int) (w : World) :
    Calls Tryd.prog 4 #[.agg #[.int .i64 s, .int .i64 a, .int .i64 b]] w fun e w' => e = .returned (.bool true) ∧ Below w.heap.size w w' := by
  go_enter Tryd.func4, Tryd.ntmps4
  go_wp2_with fail
  refine (ToCell_any _ _ _ _).mono ?_
  rintro e w1 ⟨rfl, hb1⟩
  go_wp2_with fail
  refine (SpecText_any _ _ _ _).mono ?_
  rintro e w2 ⟨rfl, hb2⟩
  obtain ⟨c0, c1, c2⟩ := cells_old (bel_call' (hb1.mono (by simp)) (by simp) hb2)
  go_wp2_with fail
  refine (ToCell_any _ _ _ _).mono ?_
  rintro e w3 ⟨rfl, hb3⟩
  go_wp2_with fail
  refine (ImplText_any _ _ _ _).mono ?_
  rintro e w4 ⟨rfl, hb4⟩
  generalize cellTxt s a b = t
  go_wp2_with fail
  go_ret
  exact ⟨rfl, bel_call' (bel_call' (bel_call' (bel_call' ((Below.refl _ _).alloc (Nat.le_refl _) _) (Nat.le_refl _) hb1) (Nat.le_refl _) hb2) (Nat.le_refl _) hb3) (Nat.le_refl _) hb4⟩

end Go.Proofs.YtbfkpjciphkbeaaDoor
