/- Areas: how much of a row of cells has a color. Turns: what a turn and a mirror make of a row of cells. Cells: the program's CellOk. Areas: the program's CellArea. -/
import Derived.Test.YtfidnhhlcdbaeaaGreatDoorM06
import Derived.WalkArith
import Derived.Test.YtfidnhhlcdbaeaaGreatDoorM00
import Derived.Test.YtfidnhhlcdbaeaaGreatDoorM01

namespace Go.Proofs.YtfidnhhlcdbaeaaGreatDoor
open Go.ChangeShapes Go.WideShapes Go.ChangeAt Go.RowKit

theorem wf_small {k : Int} (h0 : 0 ≤ k) (h1 : k ≤ 1000000) : (Lit.int .i64 k).wf = true := WalkArith.wf_i64 (by omega)
/-- How much of a valid cell has the color k. -/
def ar2 (c : C3) (k : Int) : Int := (if c.a = k then 2 else 0) + (if c.b = k then 2 else 0)
theorem ar2_bound (c : C3) (k : Int) : 0 ≤ ar2 c k ∧ ar2 c k ≤ 4 := by unfold ar2; split <;> split <;> omega
/-- .. of any cell. -/
noncomputable def arC (c : C3) (k : Int) : Int := @ite _ (OkC c.s c.a c.b) (Classical.propDecidable _) (ar2 c k) 0
theorem arC_yes {c : C3} (k : Int) (h : OkC c.s c.a c.b) : arC c k = ar2 c k := if_pos h
theorem arC_no {c : C3} (k : Int) (h : ¬ OkC c.s c.a c.b) : arC c k = 0 := if_neg h
/-- .. of the first m cells. -/
def arL (xs : List C3) (k : Int) (m : Nat) : Int := ((xs.take m).map (fun c => ar2 c k)).sum
theorem arL_zero (xs : List C3) (k : Int) : arL xs k 0 = 0 := by simp [arL]
theorem arL_succ (xs : List C3) (k : Int) {m : Nat} (h : m < xs.length) : arL xs k (m + 1) = arL xs k m + ar2 (xs.getD m C3.zero) k := by
  unfold arL
  rw [List.take_succ_eq_append_getElem h, List.map_append, List.sum_append]
  simp [List.getD, h]
theorem arL_bound (xs : List C3) (k : Int) : ∀ m : Nat, m ≤ xs.length → 0 ≤ arL xs k m ∧ arL xs k m ≤ 4 * m
  | 0, _ => by rw [arL_zero]; omega
  | m + 1, h => by
    have ih := arL_bound xs k m (by omega)
    rw [arL_succ xs k (by omega)]
    have := ar2_bound (xs.getD m C3.zero) k
    omega
noncomputable def areaOf (n : Int) (xs : List C3) (k : Int) : Int := @ite _ (BlkOk n xs) (Classical.propDecidable _) (arL xs k xs.length) 0
theorem area_yes {n : Int} {xs : List C3} (k : Int) (h : BlkOk n xs) : areaOf n xs k = arL xs k xs.length := if_pos h
theorem area_no {n : Int} {xs : List C3} (k : Int) (h : ¬ BlkOk n xs) : areaOf n xs k = 0 := if_neg h
theorem blk_len {n : Int} {xs : List C3} (h : BlkOk n xs) : 1 ≤ xs.length ∧ xs.length ≤ 16 := by
  have h1 := h.2.1
  have := sq_wrap h.1.1 h.1.2
  omega
/-- The areas of the first c colors. -/
def tab (xs : List C3) (c : Nat) : List Int := (List.range c).map (fun d : Nat => arL xs (d : Int) xs.length)
theorem tab_succ (xs : List C3) (c : Nat) : tab xs (c + 1) = tab xs c ++ [arL xs (c : Int) xs.length] := by
  unfold tab
  rw [List.range_succ, List.map_append]
  rfl
theorem tab_length (xs : List C3) (c : Nat) : (tab xs c).length = c := by simp [tab]
theorem tab_at (xs : List C3) {c k : Nat} (h : k < c) : (tab xs c).getD k 0 = arL xs (k : Int) xs.length := by simp [tab, List.getD, h]
noncomputable def areaTable (n : Int) (xs : List C3) : List Int := @ite _ (BlkOk n xs) (Classical.propDecidable _) (tab xs 6) []
theorem table_yes {n : Int} {xs : List C3} (h : BlkOk n xs) : areaTable n xs = tab xs 6 := if_pos h
theorem table_no {n : Int} {xs : List C3} (h : ¬ BlkOk n xs) : areaTable n xs = [] := if_neg h
/-- The place of the greatest of the first k numbers, the first of several. -/
def bst (t : List Int) : Nat → Int
  | 0 => -1
  | k + 1 => if bst t k < 0 ∨ t.getD (bst t k).toNat 0 < t.getD k 0 then k else bst t k
theorem bst_range (t : List Int) : ∀ k : Nat, -1 ≤ bst t k ∧ bst t k < k ∧ (0 < k → 0 ≤ bst t k)
  | 0 => by simp [bst]
  | k + 1 => by
    have ih := bst_range t k
    unfold bst
    split
    · omega
    · omega
noncomputable def mainOf (n : Int) (xs : List C3) : Int := bst (areaTable n xs) (areaTable n xs).length
/-- All used colors have one area. -/
def BalP (n : Int) (xs : List C3) : Prop := BlkOk n xs ∧ ∀ k, k < (cols xs 6).length → arL xs ((cols xs 6).getD k 0) xs.length = arL xs ((cols xs 6).getD 0 0) xs.length
noncomputable def balB (n : Int) (xs : List C3) : Bool := @decide (BalP n xs) (Classical.propDecidable _)
theorem bal_yes {n : Int} {xs : List C3} (h : BalP n xs) : true = balB n xs := by unfold balB; simp [h]
theorem bal_no {n : Int} {xs : List C3} (h : ¬ BalP n xs) : false = balB n xs := by unfold balB; simp [h]
/-- Twice the number of split cells among the first m. -/
def tri (xs : List C3) (m : Nat) : Int := ((xs.take m).map (fun c => if c.s = 0 then (0 : Int) else 2)).sum
theorem tri_zero (xs : List C3) : tri xs 0 = 0 := by simp [tri]
theorem tri_succ (xs : List C3) {m : Nat} (h : m < xs.length) : tri xs (m + 1) = tri xs m + (if (xs.getD m C3.zero).s = 0 then 0 else 2) := by
  unfold tri
  rw [List.take_succ_eq_append_getElem h, List.map_append, List.sum_append]
  simp [List.getD, h]
theorem tri_bound (xs : List C3) : ∀ m : Nat, m ≤ xs.length → 0 ≤ tri xs m ∧ tri xs m ≤ 2 * m
  | 0, _ => by rw [tri_zero]; omega
  | m + 1, h => by
    have ih := tri_bound xs m (by omega)
    rw [tri_succ xs (by omega)]
    split <;> omega
noncomputable def trisOf (n : Int) (xs : List C3) : Int := @ite _ (BlkOk n xs) (Classical.propDecidable _) (tri xs xs.length) (-1)
theorem tris_yes {n : Int} {xs : List C3} (h : BlkOk n xs) : trisOf n xs = tri xs xs.length := if_pos h
theorem tris_no {n : Int} {xs : List C3} (h : ¬ BlkOk n xs) : trisOf n xs = -1 := if_neg h
/-- A valid block has a color. -/
theorem cols_pos {n : Int} {xs : List C3} (h : BlkOk n xs) : 0 < (cols xs 6).length := by
  have hk : 0 < xs.length := (blk_len h).1
  have ho : (xs.getD 0 C3.zero).Ok := h.2.2 _ (by simp [List.getD, hk])
  have hu : usd xs (xs.getD 0 C3.zero).a xs.length = true := by
    unfold usd
    rw [List.take_length, List.any_eq_true]
    exact ⟨xs[0], List.getElem_mem hk, by simp [List.getD, hk]⟩
  generalize xs.getD 0 C3.zero = x at hu ho
  obtain ⟨x1, x2, x3⟩ := x
  change OkC x1 x2 x3 at ho
  unfold OkC at ho
  obtain ⟨j, rfl⟩ : ∃ j : Nat, x2 = j := ⟨x2.toNat, by omega⟩
  have : ((j : Nat) : Int) ∈ cols xs 6 := by
    unfold cols
    rw [List.mem_map]
    exact ⟨j, List.mem_filter.2 ⟨List.mem_range.2 (by omega), hu⟩, rfl⟩
  exact List.length_pos_of_mem this
theorem cols_at {xs : List C3} {k : Nat} (h : k < (cols xs 6).length) : ∃ j : Nat, (cols xs 6).getD k 0 = j ∧ j < 6 := by
  have hm : (cols xs 6).getD k 0 ∈ cols xs 6 := by simp [List.getD, h]
  unfold cols at hm ⊢
  rw [List.mem_map] at hm
  obtain ⟨j, hj, he⟩ := hm
  exact ⟨j, he.symm, by have := (List.mem_filter.1 hj).1; simpa using this⟩

end Go.Proofs.YtfidnhhlcdbaeaaGreatDoor

namespace Go.Proofs.YtfidnhhlcdbaeaaGreatDoor
open Go.ChangeShapes Go.WideShapes Go.ChangeAt Go.RowKit

/-- A valid cell turned, mirrored. -/
def turnC (c : C3) : C3 := if c.s = 1 then ⟨2, c.b, c.a⟩ else if c.s = 2 then ⟨1, c.a, c.b⟩ else c
def mirC (c : C3) : C3 := if c.s = 0 then c else ⟨3 - c.s, c.b, c.a⟩
/-- Any cell. -/
def turnZ (c : C3) : C3 := if OkC c.s c.a c.b then turnC c else C3.zero
def mirZ (c : C3) : C3 := if OkC c.s c.a c.b then mirC c else C3.zero
theorem turnC_ok {c : C3} (h : c.Ok) : (turnC c).Ok := by
  obtain ⟨s, a, b⟩ := c
  change OkC s a b at h
  unfold turnC
  dsimp only
  split
  · show OkC 2 b a
    unfold OkC at *; omega
  · split
    · show OkC 1 a b
      unfold OkC at *; omega
    · exact h
theorem mirC_ok {c : C3} (h : c.Ok) : (mirC c).Ok := by
  obtain ⟨s, a, b⟩ := c
  change OkC s a b at h
  unfold mirC
  dsimp only
  split
  · exact h
  · show OkC (3 - s) b a
    unfold OkC at *; omega
theorem cell_cases {c : C3} (h : c.Ok) : (∃ a, c = ⟨0, a, a⟩) ∨ (∃ a b, c = ⟨1, a, b⟩) ∨ (∃ a b, c = ⟨2, a, b⟩) := by
  obtain ⟨s, a, b⟩ := c
  change OkC s a b at h
  unfold OkC at h
  have : s = 0 ∨ s = 1 ∨ s = 2 := by omega
  rcases this with rfl | rfl | rfl
  · exact .inl ⟨a, by rw [h.2.2.2.1 rfl]⟩
  · exact .inr (.inl ⟨a, b, rfl⟩)
  · exact .inr (.inr ⟨a, b, rfl⟩)
theorem turn4 {c : C3} (h : c.Ok) : turnC (turnC (turnC (turnC c))) = c := by
  rcases cell_cases h with ⟨a, rfl⟩ | ⟨a, b, rfl⟩ | ⟨a, b, rfl⟩ <;> simp [turnC]
theorem mir2 {c : C3} (h : c.Ok) : mirC (mirC c) = c := by
  rcases cell_cases h with ⟨a, rfl⟩ | ⟨a, b, rfl⟩ | ⟨a, b, rfl⟩ <;> simp [mirC]
theorem tmt {c : C3} (h : c.Ok) : turnC (mirC (turnC c)) = mirC c := by
  rcases cell_cases h with ⟨a, rfl⟩ | ⟨a, b, rfl⟩ | ⟨a, b, rfl⟩ <;> simp [turnC, mirC]
theorem mir_ar {c : C3} (h : c.Ok) (k : Int) : ar2 (mirC c) k = ar2 c k := by
  rcases cell_cases h with ⟨a, rfl⟩ | ⟨a, b, rfl⟩ | ⟨a, b, rfl⟩ <;> simp [ar2, mirC] <;> omega

/-- The first k cells of a block whose cell i is g of the cell p i. -/
def movX (g : C3 → C3) (p : Nat → Nat) (xs : List C3) (k : Nat) : List C3 := (List.range k).map fun i => g (xs.getD (p i) C3.zero)
theorem movX_length (g : C3 → C3) (p : Nat → Nat) (xs : List C3) (k : Nat) : (movX g p xs k).length = k := by simp [movX]
theorem movX_at {g : C3 → C3} {p : Nat → Nat} {xs : List C3} {k i : Nat} (h : i < k) : (movX g p xs k).getD i C3.zero = g (xs.getD (p i) C3.zero) := by simp [movX, List.getD, h]
theorem movX_succ (g : C3 → C3) (p : Nat → Nat) (xs : List C3) (k : Nat) : movX g p xs (k + 1) = movX g p xs k ++ [g (xs.getD (p k) C3.zero)] := by
  unfold movX
  rw [List.range_succ, List.map_append]
  rfl
def tP (m i : Nat) : Nat := (m - 1 - i % m) * m + i / m
def mP (m i : Nat) : Nat := i / m * m + (m - 1 - i % m)
theorem div_at {m x y : Nat} (hx : x < m) : (y * m + x) / m = y ∧ (y * m + x) % m = x := by
  constructor
  · rw [Nat.mul_comm, Nat.mul_add_div (by omega), Nat.div_eq_of_lt hx]; rfl
  · rw [Nat.mul_comm, Nat.mul_add_mod, Nat.mod_eq_of_lt hx]
theorem tP_at {m x y : Nat} (hx : x < m) : tP m (y * m + x) = (m - 1 - x) * m + y := by
  obtain ⟨h1, h2⟩ := div_at (y := y) hx
  unfold tP
  rw [h1, h2]
theorem mP_at {m x y : Nat} (hx : x < m) : mP m (y * m + x) = y * m + (m - 1 - x) := by
  obtain ⟨h1, h2⟩ := div_at (y := y) hx
  unfold mP
  rw [h1, h2]
theorem P_all : ∀ m : Fin 5, ∀ i : Fin 16, i.val < m.val * m.val → tP m i < m.val * m.val ∧ mP m i < m.val * m.val ∧ tP m (tP m (tP m (tP m i))) = i ∧ mP m (mP m i) = i ∧ tP m (mP m (tP m i)) = mP m i := by decide
theorem P_lt {m i : Nat} (hm : m ≤ 4) (hi : i < m * m) : tP m i < m * m ∧ mP m i < m * m ∧ tP m (tP m (tP m (tP m i))) = i ∧ mP m (mP m i) = i ∧ tP m (mP m (tP m i)) = mP m i := by
  have h16 : m * m ≤ 4 * 4 := Nat.mul_le_mul hm hm
  exact P_all ⟨m, by omega⟩ ⟨i, by omega⟩ hi

/-- The whole block turned, mirrored. -/
def turnL (n : Int) (xs : List C3) : List C3 := movX turnC (tP n.toNat) xs xs.length
def mirL (n : Int) (xs : List C3) : List C3 := movX mirC (mP n.toNat) xs xs.length
theorem sz_nat {n : Int} {xs : List C3} (h : BlkOk n xs) : ∃ m : Nat, n = m ∧ 1 ≤ m ∧ m ≤ 4 ∧ xs.length = m * m := by
  obtain ⟨h1, h2, _⟩ := h
  refine ⟨n.toNat, by omega, by omega, by omega, ?_⟩
  have : ((n.toNat : Nat) : Int) = n := by omega
  rw [← this] at h2
  exact_mod_cast h2
theorem blk_at {n : Int} {xs : List C3} (h : BlkOk n xs) {i : Nat} (hi : i < xs.length) : (xs.getD i C3.zero).Ok := h.2.2 _ (by simp [List.getD, hi])
theorem ext_at {xs ys : List C3} (hl : xs.length = ys.length) (h : ∀ i, i < ys.length → xs.getD i C3.zero = ys.getD i C3.zero) : xs = ys := by
  apply List.ext_getElem hl
  intro i a b
  have := h i b
  simpa [List.getD, a, b] using this
theorem turn_ok {n : Int} {xs : List C3} (h : BlkOk n xs) : BlkOk n (turnL n xs) := by
  obtain ⟨m, rfl, h1, h2, h3⟩ := sz_nat h
  refine ⟨h.1, by unfold turnL; rw [movX_length]; exact h.2.1, fun c hc => ?_⟩
  unfold turnL movX at hc
  rw [List.mem_map] at hc
  obtain ⟨i, hi, rfl⟩ := hc
  rw [List.mem_range, h3] at hi
  exact turnC_ok (blk_at h (by rw [h3]; simpa using (P_lt h2 hi).1))
theorem mir_ok {n : Int} {xs : List C3} (h : BlkOk n xs) : BlkOk n (mirL n xs) := by
  obtain ⟨m, rfl, h1, h2, h3⟩ := sz_nat h
  refine ⟨h.1, by unfold mirL; rw [movX_length]; exact h.2.1, fun c hc => ?_⟩
  unfold mirL movX at hc
  rw [List.mem_map] at hc
  obtain ⟨i, hi, rfl⟩ := hc
  rw [List.mem_range, h3] at hi
  exact mirC_ok (blk_at h (by rw [h3]; simpa using (P_lt h2 hi).2.1))
theorem turnL_length (n : Int) (xs : List C3) : (turnL n xs).length = xs.length := movX_length _ _ _ _
theorem mirL_length (n : Int) (xs : List C3) : (mirL n xs).length = xs.length := movX_length _ _ _ _
theorem turnL_at (n : Int) (xs : List C3) {i : Nat} (h : i < xs.length) : (turnL n xs).getD i C3.zero = turnC (xs.getD (tP n.toNat i) C3.zero) := movX_at h
theorem mirL_at (n : Int) (xs : List C3) {i : Nat} (h : i < xs.length) : (mirL n xs).getD i C3.zero = mirC (xs.getD (mP n.toNat i) C3.zero) := movX_at h
theorem turnL4 {n : Int} {xs : List C3} (h : BlkOk n xs) : turnL n (turnL n (turnL n (turnL n xs))) = xs := by
  obtain ⟨m, rfl, h1, h2, h3⟩ := sz_nat h
  refine ext_at (by simp only [turnL_length]) (fun i hi => ?_)
  rw [h3] at hi
  have p1 := (P_lt h2 hi).1
  have p2 := (P_lt h2 p1).1
  have p3 := (P_lt h2 p2).1
  have p4 := (P_lt h2 hi).2.2.1
  rw [turnL_at _ _ (by simp only [turnL_length]; omega), Int.toNat_natCast, turnL_at _ _ (by simp only [turnL_length]; omega), Int.toNat_natCast, turnL_at _ _ (by simp only [turnL_length]; omega), Int.toNat_natCast, turnL_at _ _ (by omega), Int.toNat_natCast, p4]
  exact turn4 (blk_at h (by omega))
theorem mirL2 {n : Int} {xs : List C3} (h : BlkOk n xs) : mirL n (mirL n xs) = xs := by
  obtain ⟨m, rfl, h1, h2, h3⟩ := sz_nat h
  refine ext_at (by simp only [mirL_length]) (fun i hi => ?_)
  rw [h3] at hi
  have p1 := (P_lt h2 hi).2.1
  have p4 := (P_lt h2 hi).2.2.2.1
  rw [mirL_at _ _ (by simp only [mirL_length]; omega), Int.toNat_natCast, mirL_at _ _ (by omega), Int.toNat_natCast, p4]
  exact mir2 (blk_at h (by omega))
theorem tmtL {n : Int} {xs : List C3} (h : BlkOk n xs) : turnL n (mirL n (turnL n xs)) = mirL n xs := by
  obtain ⟨m, rfl, h1, h2, h3⟩ := sz_nat h
  refine ext_at (by simp only [turnL_length, mirL_length]) (fun i hi => ?_)
  rw [mirL_length, h3] at hi
  have p1 := (P_lt h2 hi).1
  have p2 := (P_lt h2 p1).2.1
  have p3 := (P_lt h2 hi).2.1
  have p4 := (P_lt h2 hi).2.2.2.2
  rw [turnL_at _ _ (by simp only [turnL_length, mirL_length]; omega), Int.toNat_natCast, mirL_at _ _ (by simp only [turnL_length]; omega), Int.toNat_natCast, turnL_at _ _ (by omega), Int.toNat_natCast, mirL_at _ _ (by omega), Int.toNat_natCast, p4]
  exact tmt (blk_at h (by omega))
/-- k turns. -/
def turnK (n : Int) (xs : List C3) : Nat → List C3
  | 0 => xs
  | k + 1 => turnL n (turnK n xs k)
theorem turnK_ok {n : Int} {xs : List C3} (h : BlkOk n xs) : ∀ k, BlkOk n (turnK n xs k)
  | 0 => h
  | k + 1 => turn_ok (turnK_ok h k)
theorem turnK_length (n : Int) (xs : List C3) : ∀ k, (turnK n xs k).length = xs.length
  | 0 => rfl
  | k + 1 => (turnL_length _ _).trans (turnK_length n xs k)
/-- The answers, for any block. -/
noncomputable def turnN (n : Int) (xs : List C3) : Int := @ite _ (BlkOk n xs) (Classical.propDecidable _) n 0
noncomputable def turnB (n : Int) (xs : List C3) : List C3 := @ite _ (BlkOk n xs) (Classical.propDecidable _) (turnL n xs) []
noncomputable def mirB (n : Int) (xs : List C3) : List C3 := @ite _ (BlkOk n xs) (Classical.propDecidable _) (mirL n xs) []
theorem turnB_yes {n : Int} {xs : List C3} (h : BlkOk n xs) : turnN n xs = n ∧ turnB n xs = turnL n xs ∧ mirB n xs = mirL n xs := ⟨if_pos h, if_pos h, if_pos h⟩
theorem turnB_no {n : Int} {xs : List C3} (h : ¬ BlkOk n xs) : turnN n xs = 0 ∧ turnB n xs = [] ∧ mirB n xs = [] := ⟨if_neg h, if_neg h, if_neg h⟩
/-- The view k. -/
def SeeOk (n k : Int) (xs : List C3) : Prop := BlkOk n xs ∧ 0 ≤ k ∧ k ≤ 7
noncomputable def seeN (n k : Int) (xs : List C3) : Int := @ite _ (SeeOk n k xs) (Classical.propDecidable _) n 0
noncomputable def seeB (n k : Int) (xs : List C3) : List C3 := @ite _ (SeeOk n k xs) (Classical.propDecidable _) (turnK n (if 4 ≤ k then mirL n xs else xs) (k % 4).toNat) []
theorem see_yes {n k : Int} {xs : List C3} (h : SeeOk n k xs) : seeN n k xs = n ∧ seeB n k xs = turnK n (if 4 ≤ k then mirL n xs else xs) (k % 4).toNat := ⟨if_pos h, if_pos h⟩
theorem see_no {n k : Int} {xs : List C3} (h : ¬ SeeOk n k xs) : seeN n k xs = 0 ∧ seeB n k xs = [] := ⟨if_neg h, if_neg h⟩

end Go.Proofs.YtfidnhhlcdbaeaaGreatDoor

namespace Go.Proofs.YtfidnhhlcdbaeaaGreatDoor
open Go.ChangeShapes Go.WideShapes Go.ChangeAt Go.RowKit

theorem Color_yes (x : Int) (w : World) (h0 : 0 ≤ x) (h1 : x ≤ 5) :
    Calls Tryz.prog 70 #[.int .i64 x] w fun e w' => e = .returned (.bool true) ∧ w' = w := by
  have h2 : x < 6 := by omega
  go_enter Tryz.func70, Tryz.ntmps70
  go_wp2
  go_ret
  exact ⟨rfl, rfl⟩

theorem Color_no (x : Int) (w : World) (h : x < 0 ∨ 5 < x) :
    Calls Tryz.prog 70 #[.int .i64 x] w fun e w' => e = .returned (.bool false) ∧ w' = w := by
  by_cases h0 : 0 ≤ x
  · have h1 : ¬ x < 6 := by omega
    clear h
    go_enter Tryz.func70, Tryz.ntmps70
    go_wp2
    go_ret
    exact ⟨ret_bool (by simp), rfl⟩
  · clear h
    go_enter Tryz.func70, Tryz.ntmps70
    go_wp2
    go_ret
    exact ⟨rfl, rfl⟩

theorem ImplOk_any (s a b : Int) (w : World) :
    Calls Tryz.prog 55 #[.agg #[.int .i64 s, .int .i64 a, .int .i64 b]] w fun e w' => e = .returned (.bool (decide (OkC s a b))) ∧ w' = w.alloc (.cells #[.int .i64 s, .int .i64 a, .int .i64 b] 50) := by
  by_cases s0 : s < 0
  · go_enter Tryz.func55, Tryz.ntmps55
    go_wp2_with fail
    go_ret
    exact ⟨ret_bool (decide_eq_false (by unfold OkC; omega)).symm, rfl⟩
  by_cases s1 : 2 < s
  · go_enter Tryz.func55, Tryz.ntmps55
    go_wp2_with fail
    go_ret
    exact ⟨ret_bool (decide_eq_false (by unfold OkC; omega)).symm, rfl⟩
  by_cases h2 : 0 ≤ a ∧ a ≤ 5
  · obtain ⟨a0, a1⟩ := h2
    by_cases h3 : 0 ≤ b ∧ b ≤ 5
    · obtain ⟨b0, b1⟩ := h3
      go_enter Tryz.func55, Tryz.ntmps55
      go_wp2_with (refine (Color_yes _ _ (by assumption) (by assumption)).mono ?_; rintro e w' ⟨rfl, rfl⟩)
      go_ret
      exact ⟨ret_bool (okB (by omega) (by omega) a0 a1 b0 b1).symm, rfl⟩
    · have h3' : b < 0 ∨ 5 < b := by omega
      clear h3
      go_enter Tryz.func55, Tryz.ntmps55
      go_wp2_with (first | (refine (Color_yes _ _ (by assumption) (by assumption)).mono ?_; rintro e w' ⟨rfl, rfl⟩) | (refine (Color_no _ _ (by assumption)).mono ?_; rintro e w' ⟨rfl, rfl⟩))
      go_ret
      exact ⟨ret_bool (decide_eq_false (by unfold OkC; omega)).symm, rfl⟩
  · have h2' : a < 0 ∨ 5 < a := by omega
    clear h2
    go_enter Tryz.func55, Tryz.ntmps55
    go_wp2_with (first | (refine (Color_yes _ _ (by assumption) (by assumption)).mono ?_; rintro e w' ⟨rfl, rfl⟩) | (refine (Color_no _ _ (by assumption)).mono ?_; rintro e w' ⟨rfl, rfl⟩))
    go_ret
    exact ⟨ret_bool (decide_eq_false (by unfold OkC; omega)).symm, rfl⟩

end Go.Proofs.YtfidnhhlcdbaeaaGreatDoor

namespace Go.Proofs.YtfidnhhlcdbaeaaGreatDoor
open Go.ChangeShapes Go.WideShapes Go.ChangeAt Go.RowKit

theorem ImplCellOk_yes (s a b : Int) (w : World) (h : OkC s a b) :
    Calls Tryz.prog 55 #[.agg #[.int .i64 s, .int .i64 a, .int .i64 b]] w fun e w' => e = .returned (.bool true) ∧ Below w.heap.size w w' :=
  (ImplOk_any s a b w).mono fun e w' ⟨he, hw⟩ => ⟨by rw [he]; simp [h], by rw [hw]; exact bel0 _ _⟩
theorem ImplCellOk_no (s a b : Int) (w : World) (h : ¬ OkC s a b) :
    Calls Tryz.prog 55 #[.agg #[.int .i64 s, .int .i64 a, .int .i64 b]] w fun e w' => e = .returned (.bool false) ∧ Below w.heap.size w w' :=
  (ImplOk_any s a b w).mono fun e w' ⟨he, hw⟩ => ⟨by rw [he]; simp [h], by rw [hw]; exact bel0 _ _⟩
end Go.Proofs.YtfidnhhlcdbaeaaGreatDoor
