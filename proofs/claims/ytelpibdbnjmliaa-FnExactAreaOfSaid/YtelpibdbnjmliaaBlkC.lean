/- Blocks: the model's CellAt. -/
import Derived.Test.YtelpibdbnjmliaaBlkS
import Derived.Test.YtelpibdbnjmliaaBlkZ
namespace Go.Proofs.Ytelpibdbnjmliaa
open Go.ChangeShapes Go.WideShapes Go.ChangeAt Go.RowKit

/-- x, y is a place of a block of size n. -/
def InB (n x y : Int) : Prop := (0 ≤ x ∧ x ≤ n - 1) ∧ (0 ≤ y ∧ y ≤ n - 1)
theorem idx {n x y : Int} (n0 : 1 ≤ n) (n1 : n ≤ 4) (h : InB n x y) : ∃ k : Nat, y * n + x = k ∧ (k : Int) < n * n ∧ IntKind.i64.wrap (y * n) = y * n ∧ IntKind.i64.wrap (y * n + x) = (k : Int) := by
  obtain ⟨⟨x0, x1⟩, y0, y1⟩ := h
  have hn : n = 1 ∨ n = 2 ∨ n = 3 ∨ n = 4 := by omega
  have key : 0 ≤ y * n ∧ y * n + x < n * n ∧ y * n + x ≤ 16 := by rcases hn with rfl | rfl | rfl | rfl <;> omega
  obtain ⟨k0, k1, k2⟩ := key
  refine ⟨(y * n + x).toNat, by omega, by omega, ?_, ?_⟩
  · rw [IntKind.wrap_i64]; omega
  · rw [IntKind.wrap_i64]; omega

/-- The cell at a place. -/
noncomputable def cAt (n : Int) (xs : List C3) (x y : Int) : C3 := @ite _ (BlkOk n xs ∧ InB n x y) (Classical.propDecidable _) (xs.getD (y * n + x).toNat C3.zero) C3.zero
theorem cAt_yes {n : Int} {xs : List C3} {x y : Int} (h : BlkOk n xs) (k : InB n x y) : cAt n xs x y = xs.getD (y * n + x).toNat C3.zero := if_pos ⟨h, k⟩
theorem cAt_no {n : Int} {xs : List C3} {x y : Int} (h : ¬ (BlkOk n xs ∧ InB n x y)) : cAt n xs x y = C3.zero := if_neg h

theorem SpecBlockOk_yes (lo hi : Nat) (n : Int) (v : Value) (xs : List C3) (w : World) (r : CellIn lo hi w v xs) (hhi : hi ≤ w.heap.size) (h : BlkOk n xs) :
    Calls Try.prog 40 #[.agg #[.int .i64 n, v]] w fun e w' => e = .returned (.bool true) ∧ Below w.heap.size w w' := by
  have hc := SpecBlockOk_any lo hi n v xs w r hhi
  rw [← blk_yes h] at hc
  exact hc
theorem SpecBlockOk_no (lo hi : Nat) (n : Int) (v : Value) (xs : List C3) (w : World) (r : CellIn lo hi w v xs) (hhi : hi ≤ w.heap.size) (h : ¬ BlkOk n xs) :
    Calls Try.prog 40 #[.agg #[.int .i64 n, v]] w fun e w' => e = .returned (.bool false) ∧ Below w.heap.size w w' := by
  have hc := SpecBlockOk_any lo hi n v xs w r hhi
  rw [← blk_no h] at hc
  exact hc

end Go.Proofs.Ytelpibdbnjmliaa
