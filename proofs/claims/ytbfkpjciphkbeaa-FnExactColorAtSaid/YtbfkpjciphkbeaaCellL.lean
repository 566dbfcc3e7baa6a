/- Cells: the walks of four statements. -/
import Derived.Test.YtbfkpjciphkbeaaCellD
import Derived.Test.YtbfkpjciphkbeaaCellE
import Derived.Test.YtbfkpjciphkbeaaCellQ
namespace Go.Proofs.Ytbfkpjciphkbeaa
open Go.ChangeShapes Go.WideShapes Go.ChangeAt Go.RowKit

/-- A block of three cells, and what is read of it behind calls that write no old block. -/
theorem cells_kept {u w' : World} {x y z : Value} {T : TypeId} (h : Below (u.heap.size + 1) (u.alloc (.cells #[x, y, z] T)) w') :
    w'.cell? ⟨u.heap.size, 0, none⟩ = some x ∧ w'.cell? ⟨u.heap.size, 1, none⟩ = some y ∧ w'.cell? ⟨u.heap.size, 2, none⟩ = some z := by
  have hk : ∀ (o : Nat), w'.cell? ⟨u.heap.size, o, none⟩ = (u.alloc (.cells #[x, y, z] T)).cell? ⟨u.heap.size, o, none⟩ := fun o => World.cell?_of_block (h.block _ (by simp))
  refine ⟨(hk 0).trans ?_, (hk 1).trans ?_, (hk 2).trans ?_⟩ <;> simp

/-- .. also behind one block more. -/
theorem cells_kept2 {u w' : World} {x y z : Value} {T : TypeId} (h : Below (u.heap.size + 1) (u.alloc (.cells #[x, y, z] T)) w') :
    (∀ o, (w'.alloc o).cell? ⟨u.heap.size, 0, none⟩ = some x) ∧ (∀ o, (w'.alloc o).cell? ⟨u.heap.size, 1, none⟩ = some y) ∧ (∀ o, (w'.alloc o).cell? ⟨u.heap.size, 2, none⟩ = some z) := by
  have hs : u.heap.size + 1 ≤ w'.heap.size := by have := h.size; simp at this; omega
  obtain ⟨c0, c1, c2⟩ := cells_kept h
  have hk : ∀ (o : Obj) (i : Nat), (w'.alloc o).cell? ⟨u.heap.size, i, none⟩ = w'.cell? ⟨u.heap.size, i, none⟩ := fun o i => World.cell?_of_block (Below.heap_alloc _ _ _ (by simp; omega))
  exact ⟨fun o => (hk o 0).trans c0, fun o => (hk o 1).trans c1, fun o => (hk o 2).trans c2⟩

theorem bel_new {w u : World} (h : Below w.heap.size w u) (o : Obj) : Below w.heap.size w (u.alloc o) := h.alloc h.size _
theorem bel_call {b : Nat} {w u v : World} (h : Below b w u) (k : Below u.heap.size u v) (hb : b ≤ w.heap.size := by simp) : Below b w v := h.trans (k.mono (by have := h.size; omega))

theorem WholeLaw_walk (a : Int) (w : World) :
    Calls Try.prog 4 #[.int .i64 a] w fun e w' => e = .returned (.bool true) ∧ Below w.heap.size w w' := by
  go_enter Try.func4, Try.ntmps4
  go_wp2_with (first | (refine (SpecWhole_any _ _).mono ?_; rintro e w' ⟨rfl, rfl⟩) | (refine (ImplWhole_any _ _).mono ?_; rintro e w' ⟨rfl, rfl⟩) | fail)
  refine (EqCell_same _ _ _ _).mono ?_
  rintro e w1 ⟨rfl, hb⟩
  go_wp2_with fail
  go_ret
  exact ⟨rfl, (((((Below.refl _ _).alloc (Nat.le_refl _) _).alloc (by simp) _).alloc (by simp; omega) _).alloc (by simp; omega) _).trans (hb.mono (by simp; omega))⟩

theorem SplitLaw_walk (s a b : Int) (w : World) :
    Calls Try.prog 5 #[.int .i64 s, .int .i64 a, .int .i64 b] w fun e w' => e = .returned (.bool true) ∧ Below w.heap.size w w' := by
  go_enter Try.func5, Try.ntmps5
  go_wp2_with fail
  refine (SpecSplit_any _ _ _ _).mono ?_
  rintro e w1 ⟨rfl, hb1⟩
  go_wp2_with fail
  refine (ImplSplit_any _ _ _ _).mono ?_
  rintro e w2 ⟨rfl, hb2⟩
  have hz := hb2.size
  simp at hz
  have hne : w1.heap.size ≠ w2.heap.size := by omega
  obtain ⟨c0, c1, c2⟩ := cells_kept2 (hb2.mono (by simp))
  go_wp2_with fail
  refine (EqCell_same _ _ _ _).mono ?_
  rintro e w3 ⟨rfl, hb3⟩
  go_wp2_with fail
  go_ret
  exact ⟨rfl, bel_call (bel_new (bel_call (bel_new hb1 _) hb2) _) hb3⟩

theorem OkLaw_walk (s a b : Int) (w : World) :
    Calls Try.prog 3 #[.agg #[.int .i64 s, .int .i64 a, .int .i64 b]] w fun e w' => e = .returned (.bool true) ∧ Below w.heap.size w w' := by
  go_enter Try.func3, Try.ntmps3
  go_wp2_with fail
  refine (ToCell_any _ _ _ _).mono ?_
  rintro e w1 ⟨rfl, hb1⟩
  have hz1 := hb1.size
  simp at hz1
  obtain ⟨c0, c1, c2⟩ := cells_kept2 (hb1.mono (by simp))
  go_wp2_with fail
  refine (SpecOk_any _ _ _ _).mono ?_
  generalize hok : decide (OkC s a b) = ok
  have hok' := Lib.hid hok
  clear hok
  rintro e w2 ⟨rfl, rfl⟩
  go_wp2_with fail
  refine (ToCell_any _ _ _ _).mono ?_
  rintro e w3 ⟨rfl, hb3⟩
  go_wp2_with fail
  refine (ImplOk_any _ _ _ _).mono ?_
  rw [hok'.out]
  rintro e w4 ⟨rfl, rfl⟩
  cases ok
  all_goals
    go_wp2_with fail
    go_ret
    exact ⟨rfl, bel_new (bel_call (bel_new (bel_call (bel_new (Below.refl _ _) _) hb1) _) hb3) _⟩

theorem ColorLaw_walk (s a b d : Int) (w : World) :
    Calls Try.prog 6 #[.agg #[.int .i64 s, .int .i64 a, .int .i64 b], .int .i64 d] w fun e w' => e = .returned (.bool true) ∧ Below w.heap.size w w' := by
  go_enter Try.func6, Try.ntmps6
  go_wp2_with fail
  refine (ToCell_any _ _ _ _).mono ?_
  rintro e w1 ⟨rfl, hb1⟩
  have hz1 := hb1.size
  simp at hz1
  go_wp2_with fail
  refine (SpecColor_any _ _ _ _ _).mono ?_
  rintro e w2 ⟨rfl, hb2⟩
  obtain ⟨c0, c1, c2⟩ := cells_kept (bel_call (hb1.mono (by simp)) hb2)
  go_wp2_with fail
  refine (ToCell_any _ _ _ _).mono ?_
  rintro e w3 ⟨rfl, hb3⟩
  go_wp2_with fail
  refine (ImplColor_any _ _ _ _ _).mono ?_
  rintro e w4 ⟨rfl, hb4⟩
  go_wp2_with fail
  go_ret
  exact ⟨rfl, bel_call (bel_call (bel_call (bel_call (bel_new (Below.refl _ _) _) hb1) hb2) hb3) hb4⟩

end Go.Proofs.Ytbfkpjciphkbeaa
