/- Turns: what a turn and a mirror make of a row of cells. Turns: the model's TurnCell and MirrorCell. Turns: what the walks of TurnBlock and MirrorBlock keep. -/
import Derived.Test.YtndffjphdlncpaaMImp
import Derived.Test.YtndffjphdlncpaaMBlm
import Derived.Test.YtndffjphdlncpaaMBlq
import Derived.Test.YtndffjphdlncpaaMReg
import Derived.Deep.AppendLies
import Derived.IntWalk

namespace Go.Proofs.Ytndffjphdlncpaa
open Go.ChangeShapes Go.WideShapes Go.ChangeAt Go.RowKit

/-- A valid cell turned, mirrored. -/
def turnC (c : C3) : C3 := if c.s = 1 then ⟨2, c.b, c.a⟩ else if c.s = 2 then ⟨1, c.a, c.b⟩ else c
def mirC (c : C3) : C3 := if c.s = 0 then c else ⟨3 - c.s, c.b, c.a⟩
/-- Any cell. -/
def turnZ (c : C3) : C3 := if OkC c.s c.a c.b then turnC c else C3.zero
def mirZ (c : C3) : C3 := if OkC c.s c.a c.b then mirC c else C3.zero
theorem turnC_ok {c : C3} (h : c.Ok) : (turnC c).Ok := by
  obtain ⟨s, a, b⟩ := c
  change OkC s a b at h
  unfold turnC
  dsimp only
  split
  · show OkC 2 b a
    unfold OkC at *; omega
  · split
    · show OkC 1 a b
      unfold OkC at *; omega
    · exact h
theorem mirC_ok {c : C3} (h : c.Ok) : (mirC c).Ok := by
  obtain ⟨s, a, b⟩ := c
  change OkC s a b at h
  unfold mirC
  dsimp only
  split
  · exact h
  · show OkC (3 - s) b a
    unfold OkC at *; omega
theorem cell_cases {c : C3} (h : c.Ok) : (∃ a, c = ⟨0, a, a⟩) ∨ (∃ a b, c = ⟨1, a, b⟩) ∨ (∃ a b, c = ⟨2, a, b⟩) := by
  obtain ⟨s, a, b⟩ := c
  change OkC s a b at h
  unfold OkC at h
  have : s = 0 ∨ s = 1 ∨ s = 2 := by omega
  rcases this with rfl | rfl | rfl
  · exact .inl ⟨a, by rw [h.2.2.2.1 rfl]⟩
  · exact .inr (.inl ⟨a, b, rfl⟩)
  · exact .inr (.inr ⟨a, b, rfl⟩)
theorem turn4 {c : C3} (h : c.Ok) : turnC (turnC (turnC (turnC c))) = c := by
  rcases cell_cases h with ⟨a, rfl⟩ | ⟨a, b, rfl⟩ | ⟨a, b, rfl⟩ <;> simp [turnC]
theorem mir2 {c : C3} (h : c.Ok) : mirC (mirC c) = c := by
  rcases cell_cases h with ⟨a, rfl⟩ | ⟨a, b, rfl⟩ | ⟨a, b, rfl⟩ <;> simp [mirC]
theorem tmt {c : C3} (h : c.Ok) : turnC (mirC (turnC c)) = mirC c := by
  rcases cell_cases h with ⟨a, rfl⟩ | ⟨a, b, rfl⟩ | ⟨a, b, rfl⟩ <;> simp [turnC, mirC]
theorem mir_ar {c : C3} (h : c.Ok) (k : Int) : ar2 (mirC c) k = ar2 c k := by
  rcases cell_cases h with ⟨a, rfl⟩ | ⟨a, b, rfl⟩ | ⟨a, b, rfl⟩ <;> simp [ar2, mirC] <;> omega

/-- The first k cells of a block whose cell i is g of the cell p i. -/
def movX (g : C3 → C3) (p : Nat → Nat) (xs : List C3) (k : Nat) : List C3 := (List.range k).map fun i => g (xs.getD (p i) C3.zero)
theorem movX_length (g : C3 → C3) (p : Nat → Nat) (xs : List C3) (k : Nat) : (movX g p xs k).length = k := by simp [movX]
theorem movX_at {g : C3 → C3} {p : Nat → Nat} {xs : List C3} {k i : Nat} (h : i < k) : (movX g p xs k).getD i C3.zero = g (xs.getD (p i) C3.zero) := by simp [movX, List.getD, h]
theorem movX_succ (g : C3 → C3) (p : Nat → Nat) (xs : List C3) (k : Nat) : movX g p xs (k + 1) = movX g p xs k ++ [g (xs.getD (p k) C3.zero)] := by
  unfold movX
  rw [List.range_succ, List.map_append]
  rfl
def tP (m i : Nat) : Nat := (m - 1 - i % m) * m + i / m
def mP (m i : Nat) : Nat := i / m * m + (m - 1 - i % m)
theorem div_at {m x y : Nat} (hx : x < m) : (y * m + x) / m = y ∧ (y * m + x) % m = x := by
  constructor
  · rw [Nat.mul_comm, Nat.mul_add_div (by omega), Nat.div_eq_of_lt hx]; rfl
  · rw [Nat.mul_comm, Nat.mul_add_mod, Nat.mod_eq_of_lt hx]
theorem tP_at {m x y : Nat} (hx : x < m) : tP m (y * m + x) = (m - 1 - x) * m + y := by
  obtain ⟨h1, h2⟩ := div_at (y := y) hx
  unfold tP
  rw [h1, h2]
theorem mP_at {m x y : Nat} (hx : x < m) : mP m (y * m + x) = y * m + (m - 1 - x) := by
  obtain ⟨h1, h2⟩ := div_at (y := y) hx
  unfold mP
  rw [h1, h2]
theorem P_all : ∀ m : Fin 5, ∀ i : Fin 16, i.val < m.val * m.val → tP m i < m.val * m.val ∧ mP m i < m.val * m.val ∧ tP m (tP m (tP m (tP m i))) = i ∧ mP m (mP m i) = i ∧ tP m (mP m (tP m i)) = mP m i := by decide
theorem P_lt {m i : Nat} (hm : m ≤ 4) (hi : i < m * m) : tP m i < m * m ∧ mP m i < m * m ∧ tP m (tP m (tP m (tP m i))) = i ∧ mP m (mP m i) = i ∧ tP m (mP m (tP m i)) = mP m i := by
  have h16 : m * m ≤ 4 * 4 := Nat.mul_le_mul hm hm
  exact P_all ⟨m, by omega⟩ ⟨i, by omega⟩ hi

/-- The whole block turned, mirrored. -/
def turnL (n : Int) (xs : List C3) : List C3 := movX turnC (tP n.toNat) xs xs.length
def mirL (n : Int) (xs : List C3) : List C3 := movX mirC (mP n.toNat) xs xs.length
theorem sz_nat {n : Int} {xs : List C3} (h : BlkOk n xs) : ∃ m : Nat, n = m ∧ 1 ≤ m ∧ m ≤ 4 ∧ xs.length = m * m := by
  obtain ⟨h1, h2, _⟩ := h
  refine ⟨n.toNat, by omega, by omega, by omega, ?_⟩
  have : ((n.toNat : Nat) : Int) = n := by omega
  rw [← this] at h2
  exact_mod_cast h2
theorem blk_at {n : Int} {xs : List C3} (h : BlkOk n xs) {i : Nat} (hi : i < xs.length) : (xs.getD i C3.zero).Ok := h.2.2 _ (by simp [List.getD, hi])
theorem ext_at {xs ys : List C3} (hl : xs.length = ys.length) (h : ∀ i, i < ys.length → xs.getD i C3.zero = ys.getD i C3.zero) : xs = ys := by
  apply List.ext_getElem hl
  intro i a b
  have := h i b
  simpa [List.getD, a, b] using this
theorem turn_ok {n : Int} {xs : List C3} (h : BlkOk n xs) : BlkOk n (turnL n xs) := by
  obtain ⟨m, rfl, h1, h2, h3⟩ := sz_nat h
  refine ⟨h.1, by unfold turnL; rw [movX_length]; exact h.2.1, fun c hc => ?_⟩
  unfold turnL movX at hc
  rw [List.mem_map] at hc
  obtain ⟨i, hi, rfl⟩ := hc
  rw [List.mem_range, h3] at hi
  exact turnC_ok (blk_at h (by rw [h3]; simpa using (P_lt h2 hi).1))
theorem mir_ok {n : Int} {xs : List C3} (h : BlkOk n xs) : BlkOk n (mirL n xs) := by
  obtain ⟨m, rfl, h1, h2, h3⟩ := sz_nat h
  refine ⟨h.1, by unfold mirL; rw [movX_length]; exact h.2.1, fun c hc => ?_⟩
  unfold mirL movX at hc
  rw [List.mem_map] at hc
  obtain ⟨i, hi, rfl⟩ := hc
  rw [List.mem_range, h3] at hi
  exact mirC_ok (blk_at h (by rw [h3]; simpa using (P_lt h2 hi).2.1))
theorem turnL_length (n : Int) (xs : List C3) : (turnL n xs).length = xs.length := movX_length _ _ _ _
theorem mirL_length (n : Int) (xs : List C3) : (mirL n xs).length = xs.length := movX_length _ _ _ _
theorem turnL_at (n : Int) (xs : List C3) {i : Nat} (h : i < xs.length) : (turnL n xs).getD i C3.zero = turnC (xs.getD (tP n.toNat i) C3.zero) := movX_at h
theorem mirL_at (n : Int) (xs : List C3) {i : Nat} (h : i < xs.length) : (mirL n xs).getD i C3.zero = mirC (xs.getD (mP n.toNat i) C3.zero) := movX_at h
theorem turnL4 {n : Int} {xs : List C3} (h : BlkOk n xs) : turnL n (turnL n (turnL n (turnL n xs))) = xs := by
  obtain ⟨m, rfl, h1, h2, h3⟩ := sz_nat h
  refine ext_at (by simp only [turnL_length]) (fun i hi => ?_)
  rw [h3] at hi
  have p1 := (P_lt h2 hi).1
  have p2 := (P_lt h2 p1).1
  have p3 := (P_lt h2 p2).1
  have p4 := (P_lt h2 hi).2.2.1
  rw [turnL_at _ _ (by simp only [turnL_length]; omega), Int.toNat_natCast, turnL_at _ _ (by simp only [turnL_length]; omega), Int.toNat_natCast, turnL_at _ _ (by simp only [turnL_length]; omega), Int.toNat_natCast, turnL_at _ _ (by omega), Int.toNat_natCast, p4]
  exact turn4 (blk_at h (by omega))
theorem mirL2 {n : Int} {xs : List C3} (h : BlkOk n xs) : mirL n (mirL n xs) = xs := by
  obtain ⟨m, rfl, h1, h2, h3⟩ := sz_nat h
  refine ext_at (by simp only [mirL_length]) (fun i hi => ?_)
  rw [h3] at hi
  have p1 := (P_lt h2 hi).2.1
  have p4 := (P_lt h2 hi).2.2.2.1
  rw [mirL_at _ _ (by simp only [mirL_length]; omega), Int.toNat_natCast, mirL_at _ _ (by omega), Int.toNat_natCast, p4]
  exact mir2 (blk_at h (by omega))
theorem tmtL {n : Int} {xs : List C3} (h : BlkOk n xs) : turnL n (mirL n (turnL n xs)) = mirL n xs := by
  obtain ⟨m, rfl, h1, h2, h3⟩ := sz_nat h
  refine ext_at (by simp only [turnL_length, mirL_length]) (fun i hi => ?_)
  rw [mirL_length, h3] at hi
  have p1 := (P_lt h2 hi).1
  have p2 := (P_lt h2 p1).2.1
  have p3 := (P_lt h2 hi).2.1
  have p4 := (P_lt h2 hi).2.2.2.2
  rw [turnL_at _ _ (by simp only [turnL_length, mirL_length]; omega), Int.toNat_natCast, mirL_at _ _ (by simp only [turnL_length]; omega), Int.toNat_natCast, turnL_at _ _ (by omega), Int.toNat_natCast, mirL_at _ _ (by omega), Int.toNat_natCast, p4]
  exact tmt (blk_at h (by omega))
/-- k turns. -/
def turnK (n : Int) (xs : List C3) : Nat → List C3
  | 0 => xs
  | k + 1 => turnL n (turnK n xs k)
theorem turnK_ok {n : Int} {xs : List C3} (h : BlkOk n xs) : ∀ k, BlkOk n (turnK n xs k)
  | 0 => h
  | k + 1 => turn_ok (turnK_ok h k)
theorem turnK_length (n : Int) (xs : List C3) : ∀ k, (turnK n xs k).length = xs.length
  | 0 => rfl
  | k + 1 => (turnL_length _ _).trans (turnK_length n xs k)
/-- The answers, for any block. -/
noncomputable def turnN (n : Int) (xs : List C3) : Int := @ite _ (BlkOk n xs) (Classical.propDecidable _) n 0
noncomputable def turnB (n : Int) (xs : List C3) : List C3 := @ite _ (BlkOk n xs) (Classical.propDecidable _) (turnL n xs) []
noncomputable def mirB (n : Int) (xs : List C3) : List C3 := @ite _ (BlkOk n xs) (Classical.propDecidable _) (mirL n xs) []
theorem turnB_yes {n : Int} {xs : List C3} (h : BlkOk n xs) : turnN n xs = n ∧ turnB n xs = turnL n xs ∧ mirB n xs = mirL n xs := ⟨if_pos h, if_pos h, if_pos h⟩
theorem turnB_no {n : Int} {xs : List C3} (h : ¬ BlkOk n xs) : turnN n xs = 0 ∧ turnB n xs = [] ∧ mirB n xs = [] := ⟨if_neg h, if_neg h, if_neg h⟩
/-- The view k. -/
def SeeOk (n k : Int) (xs : List C3) : Prop := BlkOk n xs ∧ 0 ≤ k ∧ k ≤ 7
noncomputable def seeN (n k : Int) (xs : List C3) : Int := @ite _ (SeeOk n k xs) (Classical.propDecidable _) n 0
noncomputable def seeB (n k : Int) (xs : List C3) : List C3 := @ite _ (SeeOk n k xs) (Classical.propDecidable _) (turnK n (if 4 ≤ k then mirL n xs else xs) (k % 4).toNat) []
theorem see_yes {n k : Int} {xs : List C3} (h : SeeOk n k xs) : seeN n k xs = n ∧ seeB n k xs = turnK n (if 4 ≤ k then mirL n xs else xs) (k % 4).toNat := ⟨if_pos h, if_pos h⟩
theorem see_no {n k : Int} {xs : List C3} (h : ¬ SeeOk n k xs) : seeN n k xs = 0 ∧ seeB n k xs = [] := ⟨if_neg h, if_neg h⟩

end Go.Proofs.Ytndffjphdlncpaa

namespace Go.Proofs.Ytndffjphdlncpaa
open Go.ChangeShapes Go.WideShapes Go.ChangeAt Go.RowKit

/-- What the walk keeps: the cell's box, the answer's. -/
theorem SpecTurnCell_keep (s a b : Int) (w w1 : World) (hb : Below ((w.alloc (.cells #[.int .i64 s, .int .i64 a, .int .i64 b] 41)).alloc (.cells #[.int .i64 0, .int .i64 0, .int .i64 0] 41)).heap.size ((w.alloc (.cells #[.int .i64 s, .int .i64 a, .int .i64 b] 41)).alloc (.cells #[.int .i64 0, .int .i64 0, .int .i64 0] 41)) w1) :
    (w1.cell? ⟨w.heap.size, 0, none⟩ = some (.int .i64 s) ∧ w1.cell? ⟨w.heap.size, 1, none⟩ = some (.int .i64 a) ∧ w1.cell? ⟨w.heap.size, 2, none⟩ = some (.int .i64 b)) ∧
    (w1.cell? ⟨w.heap.size + 1, 0, none⟩ = some (.int .i64 0) ∧ w1.cell? ⟨w.heap.size + 1, 1, none⟩ = some (.int .i64 0) ∧ w1.cell? ⟨w.heap.size + 1, 2, none⟩ = some (.int .i64 0)) ∧
    (w1.frozen? ⟨w.heap.size + 1, 0, none⟩ = false ∧ w1.frozen? ⟨w.heap.size + 1, 1, none⟩ = false ∧ w1.frozen? ⟨w.heap.size + 1, 2, none⟩ = false) ∧ Below w.heap.size w w1 := by
  refine ⟨⟨kept hb ?_, kept hb ?_, kept hb ?_⟩, ⟨kept hb ?_, kept hb ?_, kept hb ?_⟩, ⟨keptF (x := .int .i64 0) hb ?_ ?_, keptF (x := .int .i64 0) hb ?_ ?_, keptF (x := .int .i64 0) hb ?_ ?_⟩, bel_c (bel_n (bel0 w _) (Nat.le_refl _) _) (Nat.le_refl _) hb⟩ <;> go_simp
/-- What the walk keeps: the cell's box, the answer's. -/
theorem SpecMirrorCell_keep (s a b : Int) (w w1 : World) (hb : Below ((w.alloc (.cells #[.int .i64 s, .int .i64 a, .int .i64 b] 41)).alloc (.cells #[.int .i64 0, .int .i64 0, .int .i64 0] 41)).heap.size ((w.alloc (.cells #[.int .i64 s, .int .i64 a, .int .i64 b] 41)).alloc (.cells #[.int .i64 0, .int .i64 0, .int .i64 0] 41)) w1) :
    (w1.cell? ⟨w.heap.size, 0, none⟩ = some (.int .i64 s) ∧ w1.cell? ⟨w.heap.size, 1, none⟩ = some (.int .i64 a) ∧ w1.cell? ⟨w.heap.size, 2, none⟩ = some (.int .i64 b)) ∧
    (w1.cell? ⟨w.heap.size + 1, 0, none⟩ = some (.int .i64 0) ∧ w1.cell? ⟨w.heap.size + 1, 1, none⟩ = some (.int .i64 0) ∧ w1.cell? ⟨w.heap.size + 1, 2, none⟩ = some (.int .i64 0)) ∧
    (w1.frozen? ⟨w.heap.size + 1, 0, none⟩ = false ∧ w1.frozen? ⟨w.heap.size + 1, 1, none⟩ = false ∧ w1.frozen? ⟨w.heap.size + 1, 2, none⟩ = false) ∧ Below w.heap.size w w1 := by
  refine ⟨⟨kept hb ?_, kept hb ?_, kept hb ?_⟩, ⟨kept hb ?_, kept hb ?_, kept hb ?_⟩, ⟨keptF (x := .int .i64 0) hb ?_ ?_, keptF (x := .int .i64 0) hb ?_ ?_, keptF (x := .int .i64 0) hb ?_ ?_⟩, bel_c (bel_n (bel0 w _) (Nat.le_refl _) _) (Nat.le_refl _) hb⟩ <;> go_simp
end Go.Proofs.Ytndffjphdlncpaa

namespace Go.Proofs.Ytndffjphdlncpaa
open Go.ChangeShapes Go.WideShapes Go.ChangeAt Go.RowKit

/-- What the walk keeps: the argument's box at p, the answer's behind it, the block under way at o. -/
def TBk (p o : Nat) (n : Int) (sl v : Value) (u : World) : Prop :=
  u.cell? ⟨o, 1, none⟩ = some v ∧ u.cell? ⟨o, 0, none⟩ = some (.int .i64 n) ∧ u.frozen? ⟨o, 1, none⟩ = false ∧ u.cell? ⟨p, 0, none⟩ = some (.int .i64 n) ∧ u.cell? ⟨p, 1, none⟩ = some sl ∧
  u.cell? ⟨p + 1, 0, none⟩ = some (.int .i64 0) ∧ u.cell? ⟨p + 1, 1, none⟩ = some (.slice none 0 0) ∧ u.frozen? ⟨p + 1, 0, none⟩ = false ∧ u.frozen? ⟨p + 1, 1, none⟩ = false
theorem TBk.far {p o : Nat} {n : Int} {sl v : Value} {u w : World} (h : TBk p o n sl v u) (hb : Below (o + 1) u w) (hp : p + 1 < o) : TBk p o n sl v w := by
  obtain ⟨h0, h1, h2, h3, h4, h5, h6, h7, h8⟩ := h
  have l0 : o < o + 1 := by omega
  have l1 : p < o + 1 := by omega
  have l2 : p + 1 < o + 1 := by omega
  exact ⟨(hb.cell (p := ⟨o, 1, none⟩) l0).trans h0, (hb.cell (p := ⟨o, 0, none⟩) l0).trans h1, (hb.frozen (p := ⟨o, 1, none⟩) l0).trans h2, (hb.cell (p := ⟨p, 0, none⟩) l1).trans h3, (hb.cell (p := ⟨p, 1, none⟩) l1).trans h4, (hb.cell (p := ⟨p + 1, 0, none⟩) l2).trans h5, (hb.cell (p := ⟨p + 1, 1, none⟩) l2).trans h6, (hb.frozen (p := ⟨p + 1, 0, none⟩) l2).trans h7, (hb.frozen (p := ⟨p + 1, 1, none⟩) l2).trans h8⟩
theorem TBk.store {p o : Nat} {n : Int} {sl v : Value} {u : World} (h : TBk p o n sl v u) (hp : p + 1 < o) (v' : Value) : TBk p o n sl v' (u.setCell ⟨o, 1, none⟩ v') := by
  obtain ⟨h0, h1, h2, h3, h4, h5, h6, h7, h8⟩ := h
  have n0 : ∀ k : Nat, (⟨o, 1, none⟩ : Addr) ≠ ⟨p, k, none⟩ := by intro k e; injection e with e1; omega
  have n1 : ∀ k : Nat, (⟨o, 1, none⟩ : Addr) ≠ ⟨p + 1, k, none⟩ := by intro k e; injection e with e1; omega
  exact ⟨World.cell?_setCell_same _ _ _ h0, (World.cell?_setCell_other _ _ _ _ (by simp)).trans h1, (World.frozen?_setCell _ _ _ _).trans h2, (World.cell?_setCell_other _ _ _ _ (n0 0)).trans h3, (World.cell?_setCell_other _ _ _ _ (n0 1)).trans h4, (World.cell?_setCell_other _ _ _ _ (n1 0)).trans h5, (World.cell?_setCell_other _ _ _ _ (n1 1)).trans h6, (World.frozen?_setCell _ _ _ _).trans h7, (World.frozen?_setCell _ _ _ _).trans h8⟩
theorem TBk.start (n : Int) (sl : Value) (w w1 : World) (hb : Below ((w.alloc (.cells #[.int .i64 n, sl] 26)).alloc (.cells #[.int .i64 0, .slice none 0 0] 26)).heap.size ((w.alloc (.cells #[.int .i64 n, sl] 26)).alloc (.cells #[.int .i64 0, .slice none 0 0] 26)) w1) :
    TBk w.heap.size w1.heap.size n sl (.slice none 0 0) (w1.alloc (.cells #[.int .i64 n, .slice none 0 0] 26)) := by
  refine ⟨by simp, by simp, by simp, kept (bel0 w1 _) (kept hb ?_), kept (bel0 w1 _) (kept hb ?_), kept (bel0 w1 _) (kept hb ?_), kept (bel0 w1 _) (kept hb ?_), keptF (x := .int .i64 0) (bel0 w1 _) (kept hb ?_) (keptF (x := .int .i64 0) hb ?_ ?_), keptF (x := .slice none 0 0) (bel0 w1 _) (kept hb ?_) (keptF (x := .slice none 0 0) hb ?_ ?_)⟩ <;> go_simp
theorem bel_draw {w u : World} {b : Nat} (h : Below b w u) : Below b w u.drew := ⟨h.os, h.tape, h.output, h.size, h.block⟩
theorem places_more (xs : List C3) (c : C3) : places (xs ++ [c]) = places xs ++ [.int .i64 c.s, .int .i64 c.a, .int .i64 c.b] := by
  rw [places_append]; rfl
theorem tIdx {m x y : Nat} (h1 : 1 ≤ m) (hm : m ≤ 4) (hx : x < m) (hy : y < m) : ∃ j : Nat, j = (m - 1 - x) * m + y ∧ j < m * m ∧ IntKind.i64.wrap ((m : Int) - 1) = (m : Int) - 1 ∧ IntKind.i64.wrap ((m : Int) - 1 - x) = (m : Int) - 1 - x ∧ IntKind.i64.wrap (((m : Int) - 1 - x) * m) = ((m : Int) - 1 - x) * m ∧ IntKind.i64.wrap (((m : Int) - 1 - x) * m + y) = (j : Int) := by
  have hm' : m = 1 ∨ m = 2 ∨ m = 3 ∨ m = 4 := by omega
  refine ⟨_, rfl, ?_, IntWalk.i64_in _ (by omega), IntWalk.i64_in _ (by omega), ?_, ?_⟩
  · rcases hm' with rfl | rfl | rfl | rfl <;> omega
  · rcases hm' with rfl | rfl | rfl | rfl <;> exact IntWalk.i64_in _ (by omega)
  · rcases hm' with rfl | rfl | rfl | rfl <;> (rw [IntWalk.i64_in _ (by omega)]; omega)
theorem mIdx {m x y : Nat} (h1 : 1 ≤ m) (hm : m ≤ 4) (hx : x < m) (hy : y < m) : ∃ j : Nat, j = y * m + (m - 1 - x) ∧ j < m * m ∧ IntKind.i64.wrap ((y : Int) * m) = (y : Int) * m ∧ IntKind.i64.wrap ((y : Int) * m + m) = (y : Int) * m + m ∧ IntKind.i64.wrap ((y : Int) * m + m - 1) = (y : Int) * m + m - 1 ∧ IntKind.i64.wrap ((y : Int) * m + m - 1 - x) = (j : Int) := by
  have hm' : m = 1 ∨ m = 2 ∨ m = 3 ∨ m = 4 := by omega
  refine ⟨_, rfl, ?_, ?_, ?_, ?_, ?_⟩
  · rcases hm' with rfl | rfl | rfl | rfl <;> omega
  · rcases hm' with rfl | rfl | rfl | rfl <;> exact IntWalk.i64_in _ (by omega)
  · rcases hm' with rfl | rfl | rfl | rfl <;> exact IntWalk.i64_in _ (by omega)
  · rcases hm' with rfl | rfl | rfl | rfl <;> exact IntWalk.i64_in _ (by omega)
  · rcases hm' with rfl | rfl | rfl | rfl <;> (rw [IntWalk.i64_in _ (by omega)]; omega)
/-- A cell behind a row of cells, in three pieces. -/
theorem news3 (u : World) (c : C3) : ∀ (j : Nat) x, ([.int .i64 c.s, .int .i64 c.a, .int .i64 c.b] : List Value)[j]? = some x → (u.alloc (.cells #[.int .i64 c.s, .int .i64 c.a, .int .i64 c.b] 41)).cell? ((⟨u.heap.size, 0, none⟩ : Addr).add j) = some x :=
  fun j x hx => news_at u u.heap.size #[.int .i64 c.s, .int .i64 c.a, .int .i64 c.b] 41 rfl j x hx
section
variable {P : Program} {md : Region.Mode} {l : List Oper} {S : World → Prop} {Q : Exit → Act → World → Prop}
/-- Two operations may come up, both wanted. -/
theorem reg_pair (i j : Nat) {oi oj : Oper} {fuel : Nat} {listed : Array Bool} {a : Act} {w : World} (hi : l[i]? = some oi) (hj : l[j]? = some oj) (hr : Region.ready md l.toArray listed = [i, j])
    (hw : Region.wanted oi (yielded l.toArray a.tmps) = true) (hw2 : Region.wanted oj (yielded l.toArray a.tmps) = true)
    (h : ∀ K' : Act → World → Prop, Shut (∀ a w, S w → (S w → wpAnyH P md l.toArray Q S fuel (listed.setIfInBounds i true) a w) → K' a w) → Oper.wp P oi a w K' Q)
    (h2 : ∀ K' : Act → World → Prop, Shut (∀ a w, S w → (S w → wpAnyH P md l.toArray Q S fuel (listed.setIfInBounds j true) a w) → K' a w) → Oper.wp P oj a w K' Q) :
    wpAnyH P md l.toArray Q S (fuel + 1) listed a w :=
  wpAnyH_ready hr (by simp) (AllReadyH.cons (by simpa using hi) (fun K hK => by rw [if_pos hw]; exact h K hK) (AllReadyH.cons (by simpa using hj) (fun K hK => by rw [if_pos hw2]; exact h2 K hK) AllReadyH.nil))
end


end Go.Proofs.Ytndffjphdlncpaa
