/- Areas: the program's CellArea. -/
import Derived.Test.YtelpibdbnjmliaaCellI
import Derived.Test.YtelpibdbnjmliaaAreF
import Derived.Test.YtelpibdbnjmliaaBlkZ
namespace Go.Proofs.Ytelpibdbnjmliaa
open Go.ChangeShapes Go.WideShapes Go.ChangeAt Go.RowKit

theorem ImplCellOk_yes (s a b : Int) (w : World) (h : OkC s a b) :
    Calls Try.prog 42 #[.agg #[.int .i64 s, .int .i64 a, .int .i64 b]] w fun e w' => e = .returned (.bool true) ∧ Below w.heap.size w w' :=
  (ImplOk_any s a b w).mono fun e w' ⟨he, hw⟩ => ⟨by rw [he]; simp [h], by rw [hw]; exact bel0 _ _⟩
theorem ImplCellOk_no (s a b : Int) (w : World) (h : ¬ OkC s a b) :
    Calls Try.prog 42 #[.agg #[.int .i64 s, .int .i64 a, .int .i64 b]] w fun e w' => e = .returned (.bool false) ∧ Below w.heap.size w w' :=
  (ImplOk_any s a b w).mono fun e w' ⟨he, hw⟩ => ⟨by rw [he]; simp [h], by rw [hw]; exact bel0 _ _⟩
/-- A valid cell: tests as the walk meets them. -/
theorem area_walk (s a b k : Int) (w : World) (t1 t2 t3 : Bool) (z : Int) (h : OkC s a b) (h1 : (k != a) = t1) (h2 : (k != b) = t2) (h3 : (s == 0) = t3) (hz : z = if t1 && t2 then 0 else if t3 then 4 else 2) :
    Calls Try.prog 19 #[.agg #[.int .i64 s, .int .i64 a, .int .i64 b], .int .i64 k] w fun e w' => e = .returned (.int .i64 z) ∧ Below w.heap.size w w' := by
  have HC := Lib.hid h
  have P : ∀ w1 : World, Below (w.alloc (.cells #[.int .i64 s, .int .i64 a, .int .i64 b] 34)).heap.size (w.alloc (.cells #[.int .i64 s, .int .i64 a, .int .i64 b] 34)) w1 → w1.cell? ⟨w.heap.size, 0, none⟩ = some (.int .i64 s) ∧ w1.cell? ⟨w.heap.size, 1, none⟩ = some (.int .i64 a) ∧ w1.cell? ⟨w.heap.size, 2, none⟩ = some (.int .i64 b) ∧ Below w.heap.size w w1 := fun w1 hb =>
    ⟨kept (p := ⟨w.heap.size, 0, none⟩) (x := .int .i64 s) hb (by go_simp), kept (p := ⟨w.heap.size, 1, none⟩) (x := .int .i64 a) hb (by go_simp), kept (p := ⟨w.heap.size, 2, none⟩) (x := .int .i64 b) hb (by go_simp), bel_c (bel0 w _) (Nat.le_refl _) hb⟩
  clear h
  subst hz
  cases t1 <;> cases t2 <;> cases t3
  all_goals
    go_enter Try.func19, Try.ntmps19
    go_wp2_with fail
    refine (ImplCellOk_yes _ _ _ _ HC.out).mono ?_
    rintro e w1 ⟨rfl, hb⟩
    obtain ⟨c0, c1, c2, B⟩ := P w1 hb
    clear hb P
    go_wp2_with fail
    go_ret
    exact ⟨rfl, B⟩
theorem ImplArea_any (s a b k : Int) (w : World) :
    Calls Try.prog 19 #[.agg #[.int .i64 s, .int .i64 a, .int .i64 b], .int .i64 k] w fun e w' => e = .returned (.int .i64 (arC ⟨s, a, b⟩ k)) ∧ Below w.heap.size w w' := by
  by_cases h : OkC s a b
  · rw [arC_yes (c := ⟨s, a, b⟩) k h]
    refine area_walk s a b k w _ _ _ _ h rfl rfl rfl ?_
    have h' := h.2.2.2
    unfold ar2
    by_cases e1 : k = a
    · subst e1
      by_cases e2 : b = k
      · subst e2
        have : s = 0 := h'.2 rfl
        simp [this]
      · have : ¬ s = 0 := fun e => e2 (h'.1 e).symm
        simp [this, e2]
    · by_cases e2 : k = b
      · subst e2
        have : ¬ s = 0 := fun e => e1 (h'.1 e).symm
        simp [this, Ne.symm e1]
      · simp [e1, e2, Ne.symm e1, Ne.symm e2]
  · rw [arC_no (c := ⟨s, a, b⟩) k h]
    have HC := Lib.hid h
    clear h
    go_enter Try.func19, Try.ntmps19
    go_wp2_with fail
    refine (ImplCellOk_no _ _ _ _ HC.out).mono ?_
    rintro e w1 ⟨rfl, hb⟩
    have B := bel_c (bel0 w _) (Nat.le_refl _) hb
    clear hb
    go_wp2_with fail
    go_ret
    exact ⟨rfl, B⟩
theorem ImplArea_ok (c : C3) (k : Int) (w : World) (h : c.Ok) :
    Calls Try.prog 19 #[.agg #[.int .i64 c.s, .int .i64 c.a, .int .i64 c.b], .int .i64 k] w fun e w' => e = .returned (.int .i64 (ar2 c k)) ∧ Below w.heap.size w w' := by
  have := ImplArea_any c.s c.a c.b k w
  rw [arC_yes (c := ⟨c.s, c.a, c.b⟩) k h] at this
  exact this

end Go.Proofs.Ytelpibdbnjmliaa
