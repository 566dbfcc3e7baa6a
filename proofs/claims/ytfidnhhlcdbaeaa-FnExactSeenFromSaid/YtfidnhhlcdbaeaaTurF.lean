/- Turns: what a turn and a mirror make of a row of cells. -/
import Derived.Test.YtfidnhhlcdbaeaaAreF
namespace Go.Proofs.Ytfidnhhlcdbaeaa
open Go.ChangeShapes Go.WideShapes Go.ChangeAt Go.RowKit

/-- A valid cell turned, mirrored. -/
def turnC (c : C3) : C3 := if c.s = 1 then ⟨2, c.b, c.a⟩ else if c.s = 2 then ⟨1, c.a, c.b⟩ else c
def mirC (c : C3) : C3 := if c.s = 0 then c else ⟨3 - c.s, c.b, c.a⟩
/-- Any cell. -/
def turnZ (c : C3) : C3 := if OkC c.s c.a c.b then turnC c else C3.zero
def mirZ (c : C3) : C3 := if OkC c.s c.a c.b then mirC c else C3.zero
theorem turnC_ok {c : C3} (h : c.Ok) : (turnC c).Ok := by
  obtain ⟨s, a, b⟩ := c
  change OkC s a b at h
  unfold turnC
  dsimp only
  split
  · show OkC 2 b a
    unfold OkC at *; omega
  · split
    · show OkC 1 a b
      unfold OkC at *; omega
    · exact h
theorem mirC_ok {c : C3} (h : c.Ok) : (mirC c).Ok := by
  obtain ⟨s, a, b⟩ := c
  change OkC s a b at h
  unfold mirC
  dsimp only
  split
  · exact h
  · show OkC (3 - s) b a
    unfold OkC at *; omega
theorem cell_cases {c : C3} (h : c.Ok) : (∃ a, c = ⟨0, a, a⟩) ∨ (∃ a b, c = ⟨1, a, b⟩) ∨ (∃ a b, c = ⟨2, a, b⟩) := by
  obtain ⟨s, a, b⟩ := c
  change OkC s a b at h
  unfold OkC at h
  have : s = 0 ∨ s = 1 ∨ s = 2 := by omega
  rcases this with rfl | rfl | rfl
  · exact .inl ⟨a, by rw [h.2.2.2.1 rfl]⟩
  · exact .inr (.inl ⟨a, b, rfl⟩)
  · exact .inr (.inr ⟨a, b, rfl⟩)
theorem turn4 {c : C3} (h : c.Ok) : turnC (turnC (turnC (turnC c))) = c := by
  rcases cell_cases h with ⟨a, rfl⟩ | ⟨a, b, rfl⟩ | ⟨a, b, rfl⟩ <;> simp [turnC]
theorem mir2 {c : C3} (h : c.Ok) : mirC (mirC c) = c := by
  rcases cell_cases h with ⟨a, rfl⟩ | ⟨a, b, rfl⟩ | ⟨a, b, rfl⟩ <;> simp [mirC]
theorem tmt {c : C3} (h : c.Ok) : turnC (mirC (turnC c)) = mirC c := by
  rcases cell_cases h with ⟨a, rfl⟩ | ⟨a, b, rfl⟩ | ⟨a, b, rfl⟩ <;> simp [turnC, mirC]
theorem mir_ar {c : C3} (h : c.Ok) (k : Int) : ar2 (mirC c) k = ar2 c k := by
  rcases cell_cases h with ⟨a, rfl⟩ | ⟨a, b, rfl⟩ | ⟨a, b, rfl⟩ <;> simp [ar2, mirC] <;> omega

/-- The first k cells of a block whose cell i is g of the cell p i. -/
def movX (g : C3 → C3) (p : Nat → Nat) (xs : List C3) (k : Nat) : List C3 := (List.range k).map fun i => g (xs.getD (p i) C3.zero)
theorem movX_length (g : C3 → C3) (p : Nat → Nat) (xs : List C3) (k : Nat) : (movX g p xs k).length = k := by simp [movX]
theorem movX_at {g : C3 → C3} {p : Nat → Nat} {xs : List C3} {k i : Nat} (h : i < k) : (movX g p xs k).getD i C3.zero = g (xs.getD (p i) C3.zero) := by simp [movX, List.getD, h]
theorem movX_succ (g : C3 → C3) (p : Nat → Nat) (xs : List C3) (k : Nat) : movX g p xs (k + 1) = movX g p xs k ++ [g (xs.getD (p k) C3.zero)] := by
  unfold movX
  rw [List.range_succ, List.map_append]
  rfl
def tP (m i : Nat) : Nat := (m - 1 - i % m) * m + i / m
def mP (m i : Nat) : Nat := i / m * m + (m - 1 - i % m)
theorem div_at {m x y : Nat} (hx : x < m) : (y * m + x) / m = y ∧ (y * m + x) % m = x := by
  constructor
  · rw [Nat.mul_comm, Nat.mul_add_div (by omega), Nat.div_eq_of_lt hx]; rfl
  · rw [Nat.mul_comm, Nat.mul_add_mod, Nat.mod_eq_of_lt hx]
theorem tP_at {m x y : Nat} (hx : x < m) : tP m (y * m + x) = (m - 1 - x) * m + y := by
  obtain ⟨h1, h2⟩ := div_at (y := y) hx
  unfold tP
  rw [h1, h2]
theorem mP_at {m x y : Nat} (hx : x < m) : mP m (y * m + x) = y * m + (m - 1 - x) := by
  obtain ⟨h1, h2⟩ := div_at (y := y) hx
  unfold mP
  rw [h1, h2]
theorem P_all : ∀ m : Fin 5, ∀ i : Fin 16, i.val < m.val * m.val → tP m i < m.val * m.val ∧ mP m i < m.val * m.val ∧ tP m (tP m (tP m (tP m i))) = i ∧ mP m (mP m i) = i ∧ tP m (mP m (tP m i)) = mP m i := by decide
theorem P_lt {m i : Nat} (hm : m ≤ 4) (hi : i < m * m) : tP m i < m * m ∧ mP m i < m * m ∧ tP m (tP m (tP m (tP m i))) = i ∧ mP m (mP m i) = i ∧ tP m (mP m (tP m i)) = mP m i := by
  have h16 : m * m ≤ 4 * 4 := Nat.mul_le_mul hm hm
  exact P_all ⟨m, by omega⟩ ⟨i, by omega⟩ hi

/-- The whole block turned, mirrored. -/
def turnL (n : Int) (xs : List C3) : List C3 := movX turnC (tP n.toNat) xs xs.length
def mirL (n : Int) (xs : List C3) : List C3 := movX mirC (mP n.toNat) xs xs.length
theorem sz_nat {n : Int} {xs : List C3} (h : BlkOk n xs) : ∃ m : Nat, n = m ∧ 1 ≤ m ∧ m ≤ 4 ∧ xs.length = m * m := by
  obtain ⟨h1, h2, _⟩ := h
  refine ⟨n.toNat, by omega, by omega, by omega, ?_⟩
  have : ((n.toNat : Nat) : Int) = n := by omega
  rw [← this] at h2
  exact_mod_cast h2
theorem blk_at {n : Int} {xs : List C3} (h : BlkOk n xs) {i : Nat} (hi : i < xs.length) : (xs.getD i C3.zero).Ok := h.2.2 _ (by simp [List.getD, hi])
theorem ext_at {xs ys : List C3} (hl : xs.length = ys.length) (h : ∀ i, i < ys.length → xs.getD i C3.zero = ys.getD i C3.zero) : xs = ys := by
  apply List.ext_getElem hl
  intro i a b
  have := h i b
  simpa [List.getD, a, b] using this
theorem turn_ok {n : Int} {xs : List C3} (h : BlkOk n xs) : BlkOk n (turnL n xs) := by
  obtain ⟨m, rfl, h1, h2, h3⟩ := sz_nat h
  refine ⟨h.1, by unfold turnL; rw [movX_length]; exact h.2.1, fun c hc => ?_⟩
  unfold turnL movX at hc
  rw [List.mem_map] at hc
  obtain ⟨i, hi, rfl⟩ := hc
  rw [List.mem_range, h3] at hi
  exact turnC_ok (blk_at h (by rw [h3]; simpa using (P_lt h2 hi).1))
theorem mir_ok {n : Int} {xs : List C3} (h : BlkOk n xs) : BlkOk n (mirL n xs) := by
  obtain ⟨m, rfl, h1, h2, h3⟩ := sz_nat h
  refine ⟨h.1, by unfold mirL; rw [movX_length]; exact h.2.1, fun c hc => ?_⟩
  unfold mirL movX at hc
  rw [List.mem_map] at hc
  obtain ⟨i, hi, rfl⟩ := hc
  rw [List.mem_range, h3] at hi
  exact mirC_ok (blk_at h (by rw [h3]; simpa using (P_lt h2 hi).2.1))
theorem turnL_length (n : Int) (xs : List C3) : (turnL n xs).length = xs.length := movX_length _ _ _ _
theorem mirL_length (n : Int) (xs : List C3) : (mirL n xs).length = xs.length := movX_length _ _ _ _
theorem turnL_at (n : Int) (xs : List C3) {i : Nat} (h : i < xs.length) : (turnL n xs).getD i C3.zero = turnC (xs.getD (tP n.toNat i) C3.zero) := movX_at h
theorem mirL_at (n : Int) (xs : List C3) {i : Nat} (h : i < xs.length) : (mirL n xs).getD i C3.zero = mirC (xs.getD (mP n.toNat i) C3.zero) := movX_at h
theorem turnL4 {n : Int} {xs : List C3} (h : BlkOk n xs) : turnL n (turnL n (turnL n (turnL n xs))) = xs := by
  obtain ⟨m, rfl, h1, h2, h3⟩ := sz_nat h
  refine ext_at (by simp only [turnL_length]) (fun i hi => ?_)
  rw [h3] at hi
  have p1 := (P_lt h2 hi).1
  have p2 := (P_lt h2 p1).1
  have p3 := (P_lt h2 p2).1
  have p4 := (P_lt h2 hi).2.2.1
  rw [turnL_at _ _ (by simp only [turnL_length]; omega), Int.toNat_natCast, turnL_at _ _ (by simp only [turnL_length]; omega), Int.toNat_natCast, turnL_at _ _ (by simp only [turnL_length]; omega), Int.toNat_natCast, turnL_at _ _ (by omega), Int.toNat_natCast, p4]
  exact turn4 (blk_at h (by omega))
theorem mirL2 {n : Int} {xs : List C3} (h : BlkOk n xs) : mirL n (mirL n xs) = xs := by
  obtain ⟨m, rfl, h1, h2, h3⟩ := sz_nat h
  refine ext_at (by simp only [mirL_length]) (fun i hi => ?_)
  rw [h3] at hi
  have p1 := (P_lt h2 hi).2.1
  have p4 := (P_lt h2 hi).2.2.2.1
  rw [mirL_at _ _ (by simp only [mirL_length]; omega), Int.toNat_natCast, mirL_at _ _ (by omega), Int.toNat_natCast, p4]
  exact mir2 (blk_at h (by omega))
theorem tmtL {n : Int} {xs : List C3} (h : BlkOk n xs) : turnL n (mirL n (turnL n xs)) = mirL n xs := by
  obtain ⟨m, rfl, h1, h2, h3⟩ := sz_nat h
  refine ext_at (by simp only [turnL_length, mirL_length]) (fun i hi => ?_)
  rw [mirL_length, h3] at hi
  have p1 := (P_lt h2 hi).1
  have p2 := (P_lt h2 p1).2.1
  have p3 := (P_lt h2 hi).2.1
  have p4 := (P_lt h2 hi).2.2.2.2
  rw [turnL_at _ _ (by simp only [turnL_length, mirL_length]; omega), Int.toNat_natCast, mirL_at _ _ (by simp only [turnL_length]; omega), Int.toNat_natCast, turnL_at _ _ (by omega), Int.toNat_natCast, mirL_at _ _ (by omega), Int.toNat_natCast, p4]
  exact tmt (blk_at h (by omega))
/-- k turns. -/
def turnK (n : Int) (xs : List C3) : Nat → List C3
  | 0 => xs
  | k + 1 => turnL n (turnK n xs k)
theorem turnK_ok {n : Int} {xs : List C3} (h : BlkOk n xs) : ∀ k, BlkOk n (turnK n xs k)
  | 0 => h
  | k + 1 => turn_ok (turnK_ok h k)
theorem turnK_length (n : Int) (xs : List C3) : ∀ k, (turnK n xs k).length = xs.length
  | 0 => rfl
  | k + 1 => (turnL_length _ _).trans (turnK_length n xs k)
/-- The answers, for any block. -/
noncomputable def turnN (n : Int) (xs : List C3) : Int := @ite _ (BlkOk n xs) (Classical.propDecidable _) n 0
noncomputable def turnB (n : Int) (xs : List C3) : List C3 := @ite _ (BlkOk n xs) (Classical.propDecidable _) (turnL n xs) []
noncomputable def mirB (n : Int) (xs : List C3) : List C3 := @ite _ (BlkOk n xs) (Classical.propDecidable _) (mirL n xs) []
theorem turnB_yes {n : Int} {xs : List C3} (h : BlkOk n xs) : turnN n xs = n ∧ turnB n xs = turnL n xs ∧ mirB n xs = mirL n xs := ⟨if_pos h, if_pos h, if_pos h⟩
theorem turnB_no {n : Int} {xs : List C3} (h : ¬ BlkOk n xs) : turnN n xs = 0 ∧ turnB n xs = [] ∧ mirB n xs = [] := ⟨if_neg h, if_neg h, if_neg h⟩
/-- The view k. -/
def SeeOk (n k : Int) (xs : List C3) : Prop := BlkOk n xs ∧ 0 ≤ k ∧ k ≤ 7
noncomputable def seeN (n k : Int) (xs : List C3) : Int := @ite _ (SeeOk n k xs) (Classical.propDecidable _) n 0
noncomputable def seeB (n k : Int) (xs : List C3) : List C3 := @ite _ (SeeOk n k xs) (Classical.propDecidable _) (turnK n (if 4 ≤ k then mirL n xs else xs) (k % 4).toNat) []
theorem see_yes {n k : Int} {xs : List C3} (h : SeeOk n k xs) : seeN n k xs = n ∧ seeB n k xs = turnK n (if 4 ≤ k then mirL n xs else xs) (k % 4).toNat := ⟨if_pos h, if_pos h⟩
theorem see_no {n k : Int} {xs : List C3} (h : ¬ SeeOk n k xs) : seeN n k xs = 0 ∧ seeB n k xs = [] := ⟨if_neg h, if_neg h⟩

end Go.Proofs.Ytfidnhhlcdbaeaa
