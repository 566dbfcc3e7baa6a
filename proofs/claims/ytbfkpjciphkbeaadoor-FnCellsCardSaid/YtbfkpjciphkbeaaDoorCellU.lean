/- Cells: what the program answers at a valid cell. -/
import Derived.Test.YtbfkpjciphkbeaaDoorCellZ
import Derived.Test.YtbfkpjciphkbeaaDoorCellD
import Derived.Test.YtbfkpjciphkbeaaDoorCellT
namespace Go.Proofs.YtbfkpjciphkbeaaDoor
open Go.ChangeShapes Go.WideShapes Go.ChangeAt Go.RowKit

theorem kinds {s a b : Int} (k : OkC s a b) : (s = 0 ∧ b = a) ∨ (s = 1 ∧ ¬ a = b) ∨ (s = 2 ∧ ¬ a = b) := by unfold OkC at k; omega

theorem ImplOk_yes (s a b : Int) (w : World) (k : OkC s a b) :
    Calls Tryd.prog 11 #[.agg #[.int .i64 s, .int .i64 a, .int .i64 b]] w fun e w' => e = .returned (.bool true) ∧ Below w.heap.size w w' := by
  refine (ImplOk_any s a b w).mono ?_
  rintro e w' ⟨rfl, rfl⟩
  exact ⟨ret_bool (decide_eq_true k), (Below.refl _ _).alloc (Nat.le_refl _) _⟩
theorem ImplSplit_self (s a b : Int) (w : World) (k : OkC s a b) :
    Calls Tryd.prog 9 #[.int .i64 s, .int .i64 a, .int .i64 b] w fun e w' => e = .returned (.agg #[.int .i64 s, .int .i64 a, .int .i64 b]) ∧ Below w.heap.size w w' := by
  have h := ImplSplit_any s a b w
  obtain ⟨e1, e2, e3⟩ := sp_self k
  rw [e1, e2, e3] at h
  exact h
theorem ImplWhole_yes (a : Int) (w : World) (h : 0 ≤ a ∧ a ≤ 5) :
    Calls Tryd.prog 12 #[.int .i64 a] w fun e w' => e = .returned (.agg #[.int .i64 0, .int .i64 a, .int .i64 a]) ∧ Below w.heap.size w w' := by
  have hc := ImplWhole_any a w
  rw [wh_yes h] at hc
  refine hc.mono ?_
  rintro e w' ⟨rfl, rfl⟩
  exact ⟨rfl, (Below.refl _ _).alloc (Nat.le_refl _) _⟩

theorem txt_size {s a b : Int} (k : OkC s a b) : (cellTxt s a b).size = if s = 0 then 1 else 3 := by
  rcases kinds k with ⟨rfl, _⟩ | ⟨rfl, _⟩ | ⟨rfl, _⟩
  · rw [txt_whole k]; rfl
  · rw [txt_up k]; rfl
  · rw [txt_down k]; rfl
theorem txt_21 : cellTxt 1 2 1 = ⟨#[50, 47, 49]⟩ := by
  rw [txt_up (by unfold OkC; omega)]; rfl

/-- A text of a known length is handed back. -/
def LongT (n : Nat) (w : World) (e : Ending) (w' : World) : Prop := ∃ t : ByteArray, e = .returned (.string t) ∧ t.size = n ∧ Below w.heap.size w w'
theorem ImplText_long (s a b : Int) (w : World) (k : OkC s a b) :
    Calls Tryd.prog 10 #[.agg #[.int .i64 s, .int .i64 a, .int .i64 b]] w (LongT (if s = 0 then 1 else 3) w) := by
  refine (ImplText_any s a b w).mono ?_
  rintro e w' ⟨rfl, hb⟩
  exact ⟨_, rfl, txt_size k, hb⟩
theorem ImplText_21 (w : World) :
    Calls Tryd.prog 10 #[.agg #[.int .i64 1, .int .i64 2, .int .i64 1]] w fun e w' => e = .returned (.string ⟨#[50, 47, 49]⟩) ∧ Below w.heap.size w w' := by
  have h := ImplText_any 1 2 1 w
  rw [txt_21] at h
  exact h

/-- Three numbers at the first places of a block. -/
def Has3 (w : World) (p : Nat) (x y z : Int) : Prop := w.cell? ⟨p, 0, none⟩ = some (.int .i64 x) ∧ w.cell? ⟨p, 1, none⟩ = some (.int .i64 y) ∧ w.cell? ⟨p, 2, none⟩ = some (.int .i64 z)
theorem Has3.keep {u v : World} {p : Nat} {x y z : Int} (h : Has3 u p x y z) (hb : Below u.heap.size u v) : Has3 v p x y z := ⟨keep_cell hb h.1, keep_cell hb h.2.1, keep_cell hb h.2.2⟩
theorem Has3.new (w : World) (x y z : Int) (T : TypeId) : Has3 (w.alloc (.cells #[.int .i64 x, .int .i64 y, .int .i64 z] T)) w.heap.size x y z := by
  refine ⟨?_, ?_, ?_⟩ <;> simp

end Go.Proofs.YtbfkpjciphkbeaaDoor
