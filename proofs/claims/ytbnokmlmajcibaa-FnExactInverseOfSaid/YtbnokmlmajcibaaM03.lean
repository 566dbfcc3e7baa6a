/- Turns: what a turn and a mirror make of a row of cells. Cells: the model's WholeCell. Cells: the model's SplitCell. Exchanges: what a list of colors makes of cells. -/
import Derived.Test.YtbnokmlmajcibaaM02
import Derived.Test.YtbnokmlmajcibaaM00

namespace Go.Proofs.Ytbnokmlmajcibaa
open Go.ChangeShapes Go.WideShapes Go.ChangeAt Go.RowKit

/-- A valid cell turned, mirrored. -/
def turnC (c : C3) : C3 := if c.s = 1 then ⟨2, c.b, c.a⟩ else if c.s = 2 then ⟨1, c.a, c.b⟩ else c
def mirC (c : C3) : C3 := if c.s = 0 then c else ⟨3 - c.s, c.b, c.a⟩
/-- Any cell. -/
def turnZ (c : C3) : C3 := if OkC c.s c.a c.b then turnC c else C3.zero
def mirZ (c : C3) : C3 := if OkC c.s c.a c.b then mirC c else C3.zero
theorem turnC_ok {c : C3} (h : c.Ok) : (turnC c).Ok := by
  obtain ⟨s, a, b⟩ := c
  change OkC s a b at h
  unfold turnC
  dsimp only
  split
  · show OkC 2 b a
    unfold OkC at *; omega
  · split
    · show OkC 1 a b
      unfold OkC at *; omega
    · exact h
theorem mirC_ok {c : C3} (h : c.Ok) : (mirC c).Ok := by
  obtain ⟨s, a, b⟩ := c
  change OkC s a b at h
  unfold mirC
  dsimp only
  split
  · exact h
  · show OkC (3 - s) b a
    unfold OkC at *; omega
theorem cell_cases {c : C3} (h : c.Ok) : (∃ a, c = ⟨0, a, a⟩) ∨ (∃ a b, c = ⟨1, a, b⟩) ∨ (∃ a b, c = ⟨2, a, b⟩) := by
  obtain ⟨s, a, b⟩ := c
  change OkC s a b at h
  unfold OkC at h
  have : s = 0 ∨ s = 1 ∨ s = 2 := by omega
  rcases this with rfl | rfl | rfl
  · exact .inl ⟨a, by rw [h.2.2.2.1 rfl]⟩
  · exact .inr (.inl ⟨a, b, rfl⟩)
  · exact .inr (.inr ⟨a, b, rfl⟩)
theorem turn4 {c : C3} (h : c.Ok) : turnC (turnC (turnC (turnC c))) = c := by
  rcases cell_cases h with ⟨a, rfl⟩ | ⟨a, b, rfl⟩ | ⟨a, b, rfl⟩ <;> simp [turnC]
theorem mir2 {c : C3} (h : c.Ok) : mirC (mirC c) = c := by
  rcases cell_cases h with ⟨a, rfl⟩ | ⟨a, b, rfl⟩ | ⟨a, b, rfl⟩ <;> simp [mirC]
theorem tmt {c : C3} (h : c.Ok) : turnC (mirC (turnC c)) = mirC c := by
  rcases cell_cases h with ⟨a, rfl⟩ | ⟨a, b, rfl⟩ | ⟨a, b, rfl⟩ <;> simp [turnC, mirC]
theorem mir_ar {c : C3} (h : c.Ok) (k : Int) : ar2 (mirC c) k = ar2 c k := by
  rcases cell_cases h with ⟨a, rfl⟩ | ⟨a, b, rfl⟩ | ⟨a, b, rfl⟩ <;> simp [ar2, mirC] <;> omega

/-- The first k cells of a block whose cell i is g of the cell p i. -/
def movX (g : C3 → C3) (p : Nat → Nat) (xs : List C3) (k : Nat) : List C3 := (List.range k).map fun i => g (xs.getD (p i) C3.zero)
theorem movX_length (g : C3 → C3) (p : Nat → Nat) (xs : List C3) (k : Nat) : (movX g p xs k).length = k := by simp [movX]
theorem movX_at {g : C3 → C3} {p : Nat → Nat} {xs : List C3} {k i : Nat} (h : i < k) : (movX g p xs k).getD i C3.zero = g (xs.getD (p i) C3.zero) := by simp [movX, List.getD, h]
theorem movX_succ (g : C3 → C3) (p : Nat → Nat) (xs : List C3) (k : Nat) : movX g p xs (k + 1) = movX g p xs k ++ [g (xs.getD (p k) C3.zero)] := by
  unfold movX
  rw [List.range_succ, List.map_append]
  rfl
def tP (m i : Nat) : Nat := (m - 1 - i % m) * m + i / m
def mP (m i : Nat) : Nat := i / m * m + (m - 1 - i % m)
theorem div_at {m x y : Nat} (hx : x < m) : (y * m + x) / m = y ∧ (y * m + x) % m = x := by
  constructor
  · rw [Nat.mul_comm, Nat.mul_add_div (by omega), Nat.div_eq_of_lt hx]; rfl
  · rw [Nat.mul_comm, Nat.mul_add_mod, Nat.mod_eq_of_lt hx]
theorem tP_at {m x y : Nat} (hx : x < m) : tP m (y * m + x) = (m - 1 - x) * m + y := by
  obtain ⟨h1, h2⟩ := div_at (y := y) hx
  unfold tP
  rw [h1, h2]
theorem mP_at {m x y : Nat} (hx : x < m) : mP m (y * m + x) = y * m + (m - 1 - x) := by
  obtain ⟨h1, h2⟩ := div_at (y := y) hx
  unfold mP
  rw [h1, h2]
theorem P_all : ∀ m : Fin 5, ∀ i : Fin 16, i.val < m.val * m.val → tP m i < m.val * m.val ∧ mP m i < m.val * m.val ∧ tP m (tP m (tP m (tP m i))) = i ∧ mP m (mP m i) = i ∧ tP m (mP m (tP m i)) = mP m i := by decide
theorem P_lt {m i : Nat} (hm : m ≤ 4) (hi : i < m * m) : tP m i < m * m ∧ mP m i < m * m ∧ tP m (tP m (tP m (tP m i))) = i ∧ mP m (mP m i) = i ∧ tP m (mP m (tP m i)) = mP m i := by
  have h16 : m * m ≤ 4 * 4 := Nat.mul_le_mul hm hm
  exact P_all ⟨m, by omega⟩ ⟨i, by omega⟩ hi

/-- The whole block turned, mirrored. -/
def turnL (n : Int) (xs : List C3) : List C3 := movX turnC (tP n.toNat) xs xs.length
def mirL (n : Int) (xs : List C3) : List C3 := movX mirC (mP n.toNat) xs xs.length
theorem sz_nat {n : Int} {xs : List C3} (h : BlkOk n xs) : ∃ m : Nat, n = m ∧ 1 ≤ m ∧ m ≤ 4 ∧ xs.length = m * m := by
  obtain ⟨h1, h2, _⟩ := h
  refine ⟨n.toNat, by omega, by omega, by omega, ?_⟩
  have : ((n.toNat : Nat) : Int) = n := by omega
  rw [← this] at h2
  exact_mod_cast h2
theorem blk_at {n : Int} {xs : List C3} (h : BlkOk n xs) {i : Nat} (hi : i < xs.length) : (xs.getD i C3.zero).Ok := h.2.2 _ (by simp [List.getD, hi])
theorem ext_at {xs ys : List C3} (hl : xs.length = ys.length) (h : ∀ i, i < ys.length → xs.getD i C3.zero = ys.getD i C3.zero) : xs = ys := by
  apply List.ext_getElem hl
  intro i a b
  have := h i b
  simpa [List.getD, a, b] using this
theorem turn_ok {n : Int} {xs : List C3} (h : BlkOk n xs) : BlkOk n (turnL n xs) := by
  obtain ⟨m, rfl, h1, h2, h3⟩ := sz_nat h
  refine ⟨h.1, by unfold turnL; rw [movX_length]; exact h.2.1, fun c hc => ?_⟩
  unfold turnL movX at hc
  rw [List.mem_map] at hc
  obtain ⟨i, hi, rfl⟩ := hc
  rw [List.mem_range, h3] at hi
  exact turnC_ok (blk_at h (by rw [h3]; simpa using (P_lt h2 hi).1))
theorem mir_ok {n : Int} {xs : List C3} (h : BlkOk n xs) : BlkOk n (mirL n xs) := by
  obtain ⟨m, rfl, h1, h2, h3⟩ := sz_nat h
  refine ⟨h.1, by unfold mirL; rw [movX_length]; exact h.2.1, fun c hc => ?_⟩
  unfold mirL movX at hc
  rw [List.mem_map] at hc
  obtain ⟨i, hi, rfl⟩ := hc
  rw [List.mem_range, h3] at hi
  exact mirC_ok (blk_at h (by rw [h3]; simpa using (P_lt h2 hi).2.1))
theorem turnL_length (n : Int) (xs : List C3) : (turnL n xs).length = xs.length := movX_length _ _ _ _
theorem mirL_length (n : Int) (xs : List C3) : (mirL n xs).length = xs.length := movX_length _ _ _ _
theorem turnL_at (n : Int) (xs : List C3) {i : Nat} (h : i < xs.length) : (turnL n xs).getD i C3.zero = turnC (xs.getD (tP n.toNat i) C3.zero) := movX_at h
theorem mirL_at (n : Int) (xs : List C3) {i : Nat} (h : i < xs.length) : (mirL n xs).getD i C3.zero = mirC (xs.getD (mP n.toNat i) C3.zero) := movX_at h
theorem turnL4 {n : Int} {xs : List C3} (h : BlkOk n xs) : turnL n (turnL n (turnL n (turnL n xs))) = xs := by
  obtain ⟨m, rfl, h1, h2, h3⟩ := sz_nat h
  refine ext_at (by simp only [turnL_length]) (fun i hi => ?_)
  rw [h3] at hi
  have p1 := (P_lt h2 hi).1
  have p2 := (P_lt h2 p1).1
  have p3 := (P_lt h2 p2).1
  have p4 := (P_lt h2 hi).2.2.1
  rw [turnL_at _ _ (by simp only [turnL_length]; omega), Int.toNat_natCast, turnL_at _ _ (by simp only [turnL_length]; omega), Int.toNat_natCast, turnL_at _ _ (by simp only [turnL_length]; omega), Int.toNat_natCast, turnL_at _ _ (by omega), Int.toNat_natCast, p4]
  exact turn4 (blk_at h (by omega))
theorem mirL2 {n : Int} {xs : List C3} (h : BlkOk n xs) : mirL n (mirL n xs) = xs := by
  obtain ⟨m, rfl, h1, h2, h3⟩ := sz_nat h
  refine ext_at (by simp only [mirL_length]) (fun i hi => ?_)
  rw [h3] at hi
  have p1 := (P_lt h2 hi).2.1
  have p4 := (P_lt h2 hi).2.2.2.1
  rw [mirL_at _ _ (by simp only [mirL_length]; omega), Int.toNat_natCast, mirL_at _ _ (by omega), Int.toNat_natCast, p4]
  exact mir2 (blk_at h (by omega))
theorem tmtL {n : Int} {xs : List C3} (h : BlkOk n xs) : turnL n (mirL n (turnL n xs)) = mirL n xs := by
  obtain ⟨m, rfl, h1, h2, h3⟩ := sz_nat h
  refine ext_at (by simp only [turnL_length, mirL_length]) (fun i hi => ?_)
  rw [mirL_length, h3] at hi
  have p1 := (P_lt h2 hi).1
  have p2 := (P_lt h2 p1).2.1
  have p3 := (P_lt h2 hi).2.1
  have p4 := (P_lt h2 hi).2.2.2.2
  rw [turnL_at _ _ (by simp only [turnL_length, mirL_length]; omega), Int.toNat_natCast, mirL_at _ _ (by simp only [turnL_length]; omega), Int.toNat_natCast, turnL_at _ _ (by omega), Int.toNat_natCast, mirL_at _ _ (by omega), Int.toNat_natCast, p4]
  exact tmt (blk_at h (by omega))
/-- k turns. -/
def turnK (n : Int) (xs : List C3) : Nat → List C3
  | 0 => xs
  | k + 1 => turnL n (turnK n xs k)
theorem turnK_ok {n : Int} {xs : List C3} (h : BlkOk n xs) : ∀ k, BlkOk n (turnK n xs k)
  | 0 => h
  | k + 1 => turn_ok (turnK_ok h k)
theorem turnK_length (n : Int) (xs : List C3) : ∀ k, (turnK n xs k).length = xs.length
  | 0 => rfl
  | k + 1 => (turnL_length _ _).trans (turnK_length n xs k)
/-- The answers, for any block. -/
noncomputable def turnN (n : Int) (xs : List C3) : Int := @ite _ (BlkOk n xs) (Classical.propDecidable _) n 0
noncomputable def turnB (n : Int) (xs : List C3) : List C3 := @ite _ (BlkOk n xs) (Classical.propDecidable _) (turnL n xs) []
noncomputable def mirB (n : Int) (xs : List C3) : List C3 := @ite _ (BlkOk n xs) (Classical.propDecidable _) (mirL n xs) []
theorem turnB_yes {n : Int} {xs : List C3} (h : BlkOk n xs) : turnN n xs = n ∧ turnB n xs = turnL n xs ∧ mirB n xs = mirL n xs := ⟨if_pos h, if_pos h, if_pos h⟩
theorem turnB_no {n : Int} {xs : List C3} (h : ¬ BlkOk n xs) : turnN n xs = 0 ∧ turnB n xs = [] ∧ mirB n xs = [] := ⟨if_neg h, if_neg h, if_neg h⟩
/-- The view k. -/
def SeeOk (n k : Int) (xs : List C3) : Prop := BlkOk n xs ∧ 0 ≤ k ∧ k ≤ 7
noncomputable def seeN (n k : Int) (xs : List C3) : Int := @ite _ (SeeOk n k xs) (Classical.propDecidable _) n 0
noncomputable def seeB (n k : Int) (xs : List C3) : List C3 := @ite _ (SeeOk n k xs) (Classical.propDecidable _) (turnK n (if 4 ≤ k then mirL n xs else xs) (k % 4).toNat) []
theorem see_yes {n k : Int} {xs : List C3} (h : SeeOk n k xs) : seeN n k xs = n ∧ seeB n k xs = turnK n (if 4 ≤ k then mirL n xs else xs) (k % 4).toNat := ⟨if_pos h, if_pos h⟩
theorem see_no {n k : Int} {xs : List C3} (h : ¬ SeeOk n k xs) : seeN n k xs = 0 ∧ seeB n k xs = [] := ⟨if_neg h, if_neg h⟩

end Go.Proofs.Ytbnokmlmajcibaa

namespace Go.Proofs.Ytbnokmlmajcibaa
open Go.ChangeShapes Go.WideShapes Go.ChangeAt Go.RowKit

/-- The color of a whole cell. -/
def wh (a : Int) : Int := if 0 ≤ a ∧ a ≤ 5 then a else 0
theorem wh_yes {a : Int} (h : 0 ≤ a ∧ a ≤ 5) : wh a = a := if_pos h
theorem wh_no {a : Int} (h : ¬ (0 ≤ a ∧ a ≤ 5)) : wh a = 0 := if_neg h

theorem SpecWhole_any (a : Int) (w : World) :
    Calls Try.prog 84 #[.int .i64 a] w fun e w' => e = .returned (.agg #[.int .i64 0, .int .i64 (wh a), .int .i64 (wh a)]) ∧ w' = w.alloc (.cells #[.int .i64 0, .int .i64 (wh a), .int .i64 (wh a)] 58) := by
  by_cases h : 0 ≤ a ∧ a ≤ 5
  · rw [wh_yes h]
    obtain ⟨a0, a1⟩ := h
    go_enter Try.func84, Try.ntmps84
    go_wp2_with (refine (In_yes _ _ _ _ (by assumption) (by assumption)).mono ?_; rintro e w' ⟨rfl, rfl⟩)
    exact bodyPost_ret (v := .agg #[.int .i64 0, .int .i64 a, .int .i64 a]) (by simp [results, Try.results84, go_sem]) rfl ⟨rfl, rfl⟩
  · rw [wh_no h]
    have h' : a < 0 ∨ 5 < a := by omega
    clear h
    go_enter Try.func84, Try.ntmps84
    go_wp2_with (refine (In_no _ _ _ _ (by assumption)).mono ?_; rintro e w' ⟨rfl, rfl⟩)
    exact bodyPost_ret (v := .agg #[.int .i64 0, .int .i64 0, .int .i64 0]) (by simp [results, Try.results84, go_sem]) rfl ⟨rfl, rfl⟩

end Go.Proofs.Ytbnokmlmajcibaa

namespace Go.Proofs.Ytbnokmlmajcibaa
open Go.ChangeShapes Go.WideShapes Go.ChangeAt Go.RowKit

/-- The parts of SplitCell's answer. -/
def spS (s a b : Int) : Int := if a = b then 0 else if OkC s a b then s else 0
def spA (s a b : Int) : Int := if a = b then wh a else if OkC s a b then a else 0
def spB (s a b : Int) : Int := if a = b then wh a else if OkC s a b then b else 0

theorem sp_same (s a : Int) : spS s a a = 0 ∧ spA s a a = wh a ∧ spB s a a = wh a := ⟨if_pos rfl, if_pos rfl, if_pos rfl⟩
theorem sp_ok {s a b : Int} (h : ¬ a = b) (k : OkC s a b) : spS s a b = s ∧ spA s a b = a ∧ spB s a b = b := by
  unfold spS spA spB
  simp only [if_neg h, if_pos k, and_self]
theorem sp_no {s a b : Int} (h : ¬ a = b) (k : ¬ OkC s a b) : spS s a b = 0 ∧ spA s a b = 0 ∧ spB s a b = 0 := by
  unfold spS spA spB
  simp only [if_neg h, if_neg k, and_self]

theorem SpecSplit_any (s a b : Int) (w : World) :
    Calls Try.prog 85 #[.int .i64 s, .int .i64 a, .int .i64 b] w fun e w' => e = .returned (.agg #[.int .i64 (spS s a b), .int .i64 (spA s a b), .int .i64 (spB s a b)]) ∧ Below w.heap.size w w' := by
  by_cases h : a = b
  · subst h
    obtain ⟨e1, e2, e3⟩ := sp_same s a
    rw [e1, e2, e3]
    clear e1 e2 e3
    go_enter Try.func85, Try.ntmps85
    go_wp2_with (refine (SpecWhole_any _ _).mono ?_; rintro e w' ⟨rfl, rfl⟩)
    exact bodyPost_ret (v := .agg #[.int .i64 0, .int .i64 (wh a), .int .i64 (wh a)]) (by simp [results, Try.results85, go_sem]) rfl ⟨rfl, ((Below.refl _ _).alloc (Nat.le_refl _) _).alloc (by simp) _⟩
  · by_cases k : OkC s a b
    · obtain ⟨e1, e2, e3⟩ := sp_ok h k
      rw [e1, e2, e3]
      clear e1 e2 e3
      have k' := Lib.hid (decide_eq_true k)
      clear k
      go_enter Try.func85, Try.ntmps85
      go_wp2_with (refine (SpecOk_any _ _ _ _).mono ?_; rw [k'.out]; rintro e w' ⟨rfl, rfl⟩)
      exact bodyPost_ret (v := .agg #[.int .i64 s, .int .i64 a, .int .i64 b]) (by simp [results, Try.results85, go_sem]) rfl ⟨rfl, (((Below.refl _ _).alloc (Nat.le_refl _) _).alloc (by simp) _).alloc (by simp; omega) _⟩
    · obtain ⟨e1, e2, e3⟩ := sp_no h k
      rw [e1, e2, e3]
      clear e1 e2 e3
      have k' := Lib.hid (decide_eq_false k)
      clear k
      go_enter Try.func85, Try.ntmps85
      go_wp2_with (refine (SpecOk_any _ _ _ _).mono ?_; rw [k'.out]; rintro e w' ⟨rfl, rfl⟩)
      exact bodyPost_ret (v := .agg #[.int .i64 0, .int .i64 0, .int .i64 0]) (by simp [results, Try.results85, go_sem]) rfl ⟨rfl, (((Below.refl _ _).alloc (Nat.le_refl _) _).alloc (by simp) _).alloc (by simp; omega) _⟩

end Go.Proofs.Ytbnokmlmajcibaa

namespace Go.Proofs.Ytbnokmlmajcibaa
open Go.ChangeShapes Go.WideShapes Go.ChangeAt Go.RowKit

/-- By what the color a is replaced. -/
def atL (zs : List Int) (a : Int) : Int := zs.getD a.toNat 0
def LstOk (zs : List Int) : Prop := zs.length = 6 ∧ ∀ z ∈ zs, 0 ≤ z ∧ z ≤ 5
def Col (a : Int) : Prop := 0 ≤ a ∧ a ≤ 5
def Exch (zs : List Int) : Prop := LstOk zs ∧ zs.Nodup
theorem atL_ok {zs : List Int} (h : LstOk zs) {a : Int} (ha : Col a) : Col (atL zs a) := by
  unfold Col at ha
  have hl : a.toNat < zs.length := by rw [h.1]; omega
  exact h.2 _ (by simp [atL, List.getD, hl])
theorem atL_map {ys : List Int} (h : ys.length = 6) (f : Int → Int) {a : Int} (ha : Col a) : atL (ys.map f) a = f (atL ys a) := by
  unfold Col at ha
  have hl : a.toNat < ys.length := by rw [h]; omega
  simp [atL, List.getD, hl]
theorem lst_ext {ys zs : List Int} (h1 : ys.length = 6) (h2 : zs.length = 6) (h : ∀ a, Col a → atL ys a = atL zs a) : ys = zs := by
  apply List.ext_getElem (by rw [h1, h2])
  intro i a b
  have := h (i : Int) ⟨by omega, by omega⟩
  simpa [atL, List.getD, a, b] using this
/-- A valid cell in other colors. -/
def exC (zs : List Int) (c : C3) : C3 := if atL zs c.a = atL zs c.b then ⟨0, atL zs c.a, atL zs c.a⟩ else ⟨c.s, atL zs c.a, atL zs c.b⟩
theorem exC_a (zs : List Int) (c : C3) : (exC zs c).a = atL zs c.a := by unfold exC; split <;> rfl
theorem exC_b (zs : List Int) (c : C3) : (exC zs c).b = atL zs c.b := by
  unfold exC
  split
  · rename_i h; exact h
  · rfl
theorem okC_col {c : C3} (h : c.Ok) : Col c.a ∧ Col c.b := by
  change OkC c.s c.a c.b at h
  unfold OkC at h
  exact ⟨h.2.1, h.2.2.1⟩
theorem exC_ok {zs : List Int} {c : C3} (h : LstOk zs) (hc : c.Ok) : (exC zs c).Ok := by
  obtain ⟨ha, hb⟩ := okC_col hc
  have h1 := atL_ok h ha
  have h2 := atL_ok h hb
  change OkC c.s c.a c.b at hc
  unfold Col at h1 h2
  unfold exC
  split
  · show OkC 0 (atL zs c.a) (atL zs c.a)
    unfold OkC
    omega
  · rename_i hn
    show OkC c.s (atL zs c.a) (atL zs c.b)
    have : ¬ c.a = c.b := fun e => hn (by rw [e])
    unfold OkC at hc ⊢
    refine ⟨hc.1, h1, h2, ⟨fun e => absurd (hc.2.2.2.1 e) this, fun e => absurd e hn⟩⟩
/-- What SplitCell makes of the replaced colors. -/
theorem sp_exC {zs : List Int} {c : C3} (h : LstOk zs) (hc : c.Ok) : spS c.s (atL zs c.a) (atL zs c.b) = (exC zs c).s ∧ spA c.s (atL zs c.a) (atL zs c.b) = (exC zs c).a ∧ spB c.s (atL zs c.a) (atL zs c.b) = (exC zs c).b := by
  obtain ⟨ha, hb⟩ := okC_col hc
  have h1 := atL_ok h ha
  have hok := exC_ok h hc
  by_cases e : atL zs c.a = atL zs c.b
  · have ex : exC zs c = ⟨0, atL zs c.a, atL zs c.a⟩ := if_pos e
    rw [ex, ← e]
    obtain ⟨e1, e2, e3⟩ := sp_same c.s (atL zs c.a)
    rw [e1, e2, e3, wh_yes h1]
    exact ⟨rfl, rfl, rfl⟩
  · have ex : exC zs c = ⟨c.s, atL zs c.a, atL zs c.b⟩ := if_neg e
    rw [ex] at hok ⊢
    exact sp_ok e hok
noncomputable def exZ (zs : List Int) (c : C3) : C3 := @ite _ (c.Ok ∧ LstOk zs) (Classical.propDecidable _) (exC zs c) C3.zero
theorem exZ_yes {zs : List Int} {c : C3} (h : c.Ok) (k : LstOk zs) : exZ zs c = exC zs c := if_pos ⟨h, k⟩
theorem exZ_no {zs : List Int} {c : C3} (h : ¬ (c.Ok ∧ LstOk zs)) : exZ zs c = C3.zero := if_neg h
def exL (zs : List Int) (xs : List C3) : List C3 := xs.map (exC zs)
theorem exL_length (zs : List Int) (xs : List C3) : (exL zs xs).length = xs.length := by simp [exL]
theorem exL_ok {zs : List Int} {n : Int} {xs : List C3} (h : LstOk zs) (hb : BlkOk n xs) : BlkOk n (exL zs xs) := by
  refine ⟨hb.1, by rw [exL_length]; exact hb.2.1, fun c hc => ?_⟩
  unfold exL at hc
  rw [List.mem_map] at hc
  obtain ⟨x, hx, rfl⟩ := hc
  exact exC_ok h (hb.2.2 x hx)
theorem exC_comp {ys zs : List Int} (h : ys.length = 6) {c : C3} (hc : c.Ok) : exC zs (exC ys c) = exC (ys.map (atL zs)) c := by
  obtain ⟨ha, hb⟩ := okC_col hc
  have e1 := atL_map h (atL zs) ha
  have e2 := atL_map h (atL zs) hb
  by_cases e : atL ys c.a = atL ys c.b
  · have ex : exC ys c = ⟨0, atL ys c.a, atL ys c.a⟩ := if_pos e
    rw [ex]
    unfold exC
    rw [e1, e2]
    simp [e]
  · have ex : exC ys c = ⟨c.s, atL ys c.a, atL ys c.b⟩ := if_neg e
    rw [ex]
    unfold exC
    rw [e1, e2]
theorem exC_congr {ys zs : List Int} {c : C3} (h1 : atL ys c.a = atL zs c.a) (h2 : atL ys c.b = atL zs c.b) : exC ys c = exC zs c := by
  unfold exC
  rw [h1, h2]
def idL : List Int := [0, 1, 2, 3, 4, 5]
theorem idL_ok : LstOk idL := by
  refine ⟨rfl, fun z hz => ?_⟩
  simp [idL] at hz
  omega
theorem atL_id {a : Int} (h : Col a) : atL idL a = a := by
  unfold Col at h
  have : a = 0 ∨ a = 1 ∨ a = 2 ∨ a = 3 ∨ a = 4 ∨ a = 5 := by omega
  rcases this with rfl | rfl | rfl | rfl | rfl | rfl <;> rfl
theorem exC_id {c : C3} (hc : c.Ok) : exC idL c = c := by
  obtain ⟨ha, hb⟩ := okC_col hc
  obtain ⟨s, a, b⟩ := c
  change OkC s a b at hc
  unfold exC
  dsimp only at ha hb ⊢
  rw [atL_id ha, atL_id hb]
  unfold OkC at hc
  split
  · rename_i e
    rw [hc.2.2.2.2 e, e]
  · rfl
theorem exL_id {n : Int} {xs : List C3} (hb : BlkOk n xs) : exL idL xs = xs := by
  unfold exL
  have : ∀ l : List C3, (∀ c ∈ l, c.Ok) → l.map (exC idL) = l := fun l hl => by
    induction l with
    | nil => rfl
    | cons x r ih => rw [List.map_cons, exC_id (hl x (by simp)), ih (fun c hc => hl c (by simp [hc]))]
  exact this xs hb.2.2
theorem exL_comp {ys zs : List Int} {n : Int} {xs : List C3} (h : ys.length = 6) (hb : BlkOk n xs) : exL zs (exL ys xs) = exL (ys.map (atL zs)) xs := by
  unfold exL
  rw [List.map_map]
  apply List.map_congr_left
  intro c hc
  exact exC_comp h (hb.2.2 c hc)
/-- The list that exchanges two colors. -/
def swpL (a b : Int) : List Int := (idL.set a.toNat b).set b.toNat a
theorem swp_all : ∀ a b : Fin 6, LstOk (swpL a.val b.val) ∧ (swpL a.val b.val).map (atL (swpL a.val b.val)) = idL ∧ ∀ c : Fin 6, (atL (swpL a.val b.val) c.val = a.val ↔ (c.val : Int) = b.val) := by
  unfold LstOk
  decide
theorem swp_ok {a b : Int} (ha : Col a) (hb : Col b) : LstOk (swpL a b) ∧ (swpL a b).map (atL (swpL a b)) = idL ∧ ∀ c, Col c → (atL (swpL a b) c = a ↔ c = b) := by
  unfold Col at ha hb
  obtain ⟨i, rfl⟩ : ∃ j : Nat, a = j := ⟨a.toNat, by omega⟩
  obtain ⟨k, rfl⟩ : ∃ j : Nat, b = j := ⟨b.toNat, by omega⟩
  obtain ⟨h1, h2, h3⟩ := swp_all ⟨i, by omega⟩ ⟨k, by omega⟩
  refine ⟨h1, h2, fun c hc => ?_⟩
  unfold Col at hc
  obtain ⟨j, rfl⟩ : ∃ j : Nat, c = j := ⟨c.toNat, by omega⟩
  exact h3 ⟨j, by omega⟩
theorem swp_twice {a b n : Int} {xs : List C3} (ha : Col a) (hb : Col b) (h : BlkOk n xs) : exL (swpL a b) (exL (swpL a b) xs) = xs := by
  obtain ⟨h1, h2, _⟩ := swp_ok ha hb
  rw [exL_comp h1.1 h, h2, exL_id h]
theorem ar2_ex (zs : List Int) (c : C3) (k : Int) : ar2 (exC zs c) k = (if atL zs c.a = k then 2 else 0) + (if atL zs c.b = k then 2 else 0) := by
  unfold ar2
  rw [exC_a, exC_b]
theorem arL_all' {zs : List Int} {i k : Int} : ∀ xs : List C3, (∀ c ∈ xs, ar2 (exC zs c) i = ar2 c k) → ((exL zs xs).map (fun c => ar2 c i)).sum = (xs.map (fun c => ar2 c k)).sum
  | [], _ => rfl
  | x :: r, h => by
    have ih := arL_all' r (fun c hc => h c (by simp [hc]))
    unfold exL at ih ⊢
    simp only [List.map_cons, List.sum_cons, h x (by simp), ih]
theorem swp_area {a b n : Int} {xs : List C3} (ha : Col a) (hb : Col b) (h : BlkOk n xs) : arL (exL (swpL a b) xs) a (exL (swpL a b) xs).length = arL xs b xs.length := by
  obtain ⟨_, _, h3⟩ := swp_ok ha hb
  unfold arL
  rw [List.take_length, List.take_length]
  refine arL_all' xs (fun c hc => ?_)
  obtain ⟨h1, h2⟩ := okC_col (h.2.2 c hc)
  rw [ar2_ex]
  unfold ar2
  have e1 := h3 c.a h1
  have e2 := h3 c.b h2
  by_cases p : c.a = b <;> by_cases q : c.b = b <;> simp [p, q] <;> simp_all

end Go.Proofs.Ytbnokmlmajcibaa
