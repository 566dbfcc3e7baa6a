/- Areas: how much of a row of cells has a color. -/
import Derived.Test.YtfidnhhlcdbaeaaBlkU
import Derived.WalkArith
namespace Go.Proofs.Ytfidnhhlcdbaeaa
open Go.ChangeShapes Go.WideShapes Go.ChangeAt Go.RowKit

theorem wf_small {k : Int} (h0 : 0 ≤ k) (h1 : k ≤ 1000000) : (Lit.int .i64 k).wf = true := WalkArith.wf_i64 (by omega)
/-- How much of a valid cell has the color k. -/
def ar2 (c : C3) (k : Int) : Int := (if c.a = k then 2 else 0) + (if c.b = k then 2 else 0)
theorem ar2_bound (c : C3) (k : Int) : 0 ≤ ar2 c k ∧ ar2 c k ≤ 4 := by unfold ar2; split <;> split <;> omega
/-- .. of any cell. -/
noncomputable def arC (c : C3) (k : Int) : Int := @ite _ (OkC c.s c.a c.b) (Classical.propDecidable _) (ar2 c k) 0
theorem arC_yes {c : C3} (k : Int) (h : OkC c.s c.a c.b) : arC c k = ar2 c k := if_pos h
theorem arC_no {c : C3} (k : Int) (h : ¬ OkC c.s c.a c.b) : arC c k = 0 := if_neg h
/-- .. of the first m cells. -/
def arL (xs : List C3) (k : Int) (m : Nat) : Int := ((xs.take m).map (fun c => ar2 c k)).sum
theorem arL_zero (xs : List C3) (k : Int) : arL xs k 0 = 0 := by simp [arL]
theorem arL_succ (xs : List C3) (k : Int) {m : Nat} (h : m < xs.length) : arL xs k (m + 1) = arL xs k m + ar2 (xs.getD m C3.zero) k := by
  unfold arL
  rw [List.take_succ_eq_append_getElem h, List.map_append, List.sum_append]
  simp [List.getD, h]
theorem arL_bound (xs : List C3) (k : Int) : ∀ m : Nat, m ≤ xs.length → 0 ≤ arL xs k m ∧ arL xs k m ≤ 4 * m
  | 0, _ => by rw [arL_zero]; omega
  | m + 1, h => by
    have ih := arL_bound xs k m (by omega)
    rw [arL_succ xs k (by omega)]
    have := ar2_bound (xs.getD m C3.zero) k
    omega
noncomputable def areaOf (n : Int) (xs : List C3) (k : Int) : Int := @ite _ (BlkOk n xs) (Classical.propDecidable _) (arL xs k xs.length) 0
theorem area_yes {n : Int} {xs : List C3} (k : Int) (h : BlkOk n xs) : areaOf n xs k = arL xs k xs.length := if_pos h
theorem area_no {n : Int} {xs : List C3} (k : Int) (h : ¬ BlkOk n xs) : areaOf n xs k = 0 := if_neg h
theorem blk_len {n : Int} {xs : List C3} (h : BlkOk n xs) : 1 ≤ xs.length ∧ xs.length ≤ 16 := by
  have h1 := h.2.1
  have := sq_wrap h.1.1 h.1.2
  omega
/-- The areas of the first c colors. -/
def tab (xs : List C3) (c : Nat) : List Int := (List.range c).map (fun d : Nat => arL xs (d : Int) xs.length)
theorem tab_succ (xs : List C3) (c : Nat) : tab xs (c + 1) = tab xs c ++ [arL xs (c : Int) xs.length] := by
  unfold tab
  rw [List.range_succ, List.map_append]
  rfl
theorem tab_length (xs : List C3) (c : Nat) : (tab xs c).length = c := by simp [tab]
theorem tab_at (xs : List C3) {c k : Nat} (h : k < c) : (tab xs c).getD k 0 = arL xs (k : Int) xs.length := by simp [tab, List.getD, h]
noncomputable def areaTable (n : Int) (xs : List C3) : List Int := @ite _ (BlkOk n xs) (Classical.propDecidable _) (tab xs 6) []
theorem table_yes {n : Int} {xs : List C3} (h : BlkOk n xs) : areaTable n xs = tab xs 6 := if_pos h
theorem table_no {n : Int} {xs : List C3} (h : ¬ BlkOk n xs) : areaTable n xs = [] := if_neg h
/-- The place of the greatest of the first k numbers, the first of several. -/
def bst (t : List Int) : Nat → Int
  | 0 => -1
  | k + 1 => if bst t k < 0 ∨ t.getD (bst t k).toNat 0 < t.getD k 0 then k else bst t k
theorem bst_range (t : List Int) : ∀ k : Nat, -1 ≤ bst t k ∧ bst t k < k ∧ (0 < k → 0 ≤ bst t k)
  | 0 => by simp [bst]
  | k + 1 => by
    have ih := bst_range t k
    unfold bst
    split
    · omega
    · omega
noncomputable def mainOf (n : Int) (xs : List C3) : Int := bst (areaTable n xs) (areaTable n xs).length
/-- All used colors have one area. -/
def BalP (n : Int) (xs : List C3) : Prop := BlkOk n xs ∧ ∀ k, k < (cols xs 6).length → arL xs ((cols xs 6).getD k 0) xs.length = arL xs ((cols xs 6).getD 0 0) xs.length
noncomputable def balB (n : Int) (xs : List C3) : Bool := @decide (BalP n xs) (Classical.propDecidable _)
theorem bal_yes {n : Int} {xs : List C3} (h : BalP n xs) : true = balB n xs := by unfold balB; simp [h]
theorem bal_no {n : Int} {xs : List C3} (h : ¬ BalP n xs) : false = balB n xs := by unfold balB; simp [h]
/-- Twice the number of split cells among the first m. -/
def tri (xs : List C3) (m : Nat) : Int := ((xs.take m).map (fun c => if c.s = 0 then (0 : Int) else 2)).sum
theorem tri_zero (xs : List C3) : tri xs 0 = 0 := by simp [tri]
theorem tri_succ (xs : List C3) {m : Nat} (h : m < xs.length) : tri xs (m + 1) = tri xs m + (if (xs.getD m C3.zero).s = 0 then 0 else 2) := by
  unfold tri
  rw [List.take_succ_eq_append_getElem h, List.map_append, List.sum_append]
  simp [List.getD, h]
theorem tri_bound (xs : List C3) : ∀ m : Nat, m ≤ xs.length → 0 ≤ tri xs m ∧ tri xs m ≤ 2 * m
  | 0, _ => by rw [tri_zero]; omega
  | m + 1, h => by
    have ih := tri_bound xs m (by omega)
    rw [tri_succ xs (by omega)]
    split <;> omega
noncomputable def trisOf (n : Int) (xs : List C3) : Int := @ite _ (BlkOk n xs) (Classical.propDecidable _) (tri xs xs.length) (-1)
theorem tris_yes {n : Int} {xs : List C3} (h : BlkOk n xs) : trisOf n xs = tri xs xs.length := if_pos h
theorem tris_no {n : Int} {xs : List C3} (h : ¬ BlkOk n xs) : trisOf n xs = -1 := if_neg h
/-- A valid block has a color. -/
theorem cols_pos {n : Int} {xs : List C3} (h : BlkOk n xs) : 0 < (cols xs 6).length := by
  have hk : 0 < xs.length := (blk_len h).1
  have ho : (xs.getD 0 C3.zero).Ok := h.2.2 _ (by simp [List.getD, hk])
  have hu : usd xs (xs.getD 0 C3.zero).a xs.length = true := by
    unfold usd
    rw [List.take_length, List.any_eq_true]
    exact ⟨xs[0], List.getElem_mem hk, by simp [List.getD, hk]⟩
  generalize xs.getD 0 C3.zero = x at hu ho
  obtain ⟨x1, x2, x3⟩ := x
  change OkC x1 x2 x3 at ho
  unfold OkC at ho
  obtain ⟨j, rfl⟩ : ∃ j : Nat, x2 = j := ⟨x2.toNat, by omega⟩
  have : ((j : Nat) : Int) ∈ cols xs 6 := by
    unfold cols
    rw [List.mem_map]
    exact ⟨j, List.mem_filter.2 ⟨List.mem_range.2 (by omega), hu⟩, rfl⟩
  exact List.length_pos_of_mem this
theorem cols_at {xs : List C3} {k : Nat} (h : k < (cols xs 6).length) : ∃ j : Nat, (cols xs 6).getD k 0 = j ∧ j < 6 := by
  have hm : (cols xs 6).getD k 0 ∈ cols xs 6 := by simp [List.getD, h]
  unfold cols at hm ⊢
  rw [List.mem_map] at hm
  obtain ⟨j, hj, he⟩ := hm
  exact ⟨j, he.symm, by have := (List.mem_filter.1 hj).1; simpa using this⟩

end Go.Proofs.Ytfidnhhlcdbaeaa
