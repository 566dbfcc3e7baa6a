/- Areas: what the law of the areas asks of numbers. -/
import Derived.Test.YtelpibdbnjmliaaAreF
import Derived.Test.YtelpibdbnjmliaaBlkX
import Derived.Test.YtelpibdbnjmliaaIntH
namespace Go.Proofs.Ytelpibdbnjmliaa
open Go.ChangeShapes Go.WideShapes Go.ChangeAt Go.RowKit

/-- The first k numbers together. -/
def psum (t : List Int) (k : Nat) : Int := (t.take k).sum
theorem psum_zero (t : List Int) : psum t 0 = 0 := by simp [psum]
theorem psum_succ (t : List Int) {k : Nat} (h : k < t.length) : psum t (k + 1) = psum t k + t.getD k 0 := by
  unfold psum
  rw [List.take_succ_eq_append_getElem h, List.sum_append]
  simp [List.getD, h]
theorem two_in (a : Int) (h0 : 0 ≤ a) (h1 : a ≤ 5) : (if a = 0 then (2 : Int) else 0) + (if a = 1 then 2 else 0) + (if a = 2 then 2 else 0) + (if a = 3 then 2 else 0) + (if a = 4 then 2 else 0) + (if a = 5 then 2 else 0) = 2 := by
  have : a = 0 ∨ a = 1 ∨ a = 2 ∨ a = 3 ∨ a = 4 ∨ a = 5 := by omega
  rcases this with rfl | rfl | rfl | rfl | rfl | rfl <;> decide
theorem ar2_all {c : C3} (h : c.Ok) : ar2 c 0 + ar2 c 1 + ar2 c 2 + ar2 c 3 + ar2 c 4 + ar2 c 5 = 4 := by
  obtain ⟨s, a, b⟩ := c
  change OkC s a b at h
  unfold OkC at h
  have h1 := two_in a (by omega) (by omega)
  have h2 := two_in b (by omega) (by omega)
  unfold ar2
  dsimp only
  omega
theorem arL_all {xs : List C3} (h : ∀ c ∈ xs, c.Ok) : ∀ m : Nat, m ≤ xs.length → arL xs 0 m + arL xs 1 m + arL xs 2 m + arL xs 3 m + arL xs 4 m + arL xs 5 m = 4 * m
  | 0, _ => by simp [arL_zero]
  | m + 1, hm => by
    have ih := arL_all h m (by omega)
    have hk : m < xs.length := by omega
    have ho := ar2_all (h (xs.getD m C3.zero) (by simp [List.getD, hk]))
    rw [arL_succ xs 0 hk, arL_succ xs 1 hk, arL_succ xs 2 hk, arL_succ xs 3 hk, arL_succ xs 4 hk, arL_succ xs 5 hk]
    omega
theorem psum_tab {n : Int} {xs : List C3} (h : BlkOk n xs) : psum (tab xs 6) 6 = 4 * n * n := by
  have h1 := arL_all h.2.2 xs.length (Nat.le_refl _)
  have h2 := h.2.1
  have e : psum (tab xs 6) 6 = arL xs 0 xs.length + arL xs 1 xs.length + arL xs 2 xs.length + arL xs 3 xs.length + arL xs 4 xs.length + arL xs 5 xs.length := by
    simp [psum, tab, List.range_succ]
    omega
  rw [e, h1, h2, Int.mul_assoc]
theorem psum_bound {xs : List C3} (hx : xs.length ≤ 16) : ∀ k : Nat, k ≤ 6 → 0 ≤ psum (tab xs 6) k ∧ psum (tab xs 6) k ≤ 64 * k
  | 0, _ => by simp [psum_zero]
  | k + 1, h => by
    have ih := psum_bound hx k (by omega)
    rw [psum_succ _ (by rw [tab_length]; omega), tab_at xs (by omega)]
    have := arL_bound xs (k : Int) xs.length (Nat.le_refl _)
    omega
theorem tab_bound {xs : List C3} (hx : xs.length ≤ 16) {k : Nat} (h : k < 6) : 0 ≤ (tab xs 6).getD k 0 ∧ (tab xs 6).getD k 0 ≤ 64 := by
  rw [tab_at xs h]
  have := arL_bound xs (k : Int) xs.length (Nat.le_refl _)
  omega
/-- A color is used just if it has an area. -/
theorem usd_area (xs : List C3) (k : Int) : ∀ m : Nat, m ≤ xs.length → usd xs k m = decide (0 < arL xs k m)
  | 0, _ => by simp [usd, arL_zero]
  | m + 1, h => by
    have ih := usd_area xs k m (by omega)
    have hb := arL_bound xs k m (by omega)
    rw [usd_succ xs k m (by omega), arL_succ xs k (by omega), ih]
    generalize xs.getD m C3.zero = c
    unfold ar2
    by_cases h1 : c.a = k
    · by_cases h2 : c.b = k
      · have : 0 < arL xs k m + (2 + 2) := by omega
        simp [h1, h2]; omega
      · simp [h1, h2]; omega
    · by_cases h2 : c.b = k
      · simp [h1, h2]; omega
      · have e1 : (c.a == k) = false := by simpa using h1
        have e2 : (c.b == k) = false := by simpa using h2
        simp [h1, h2, e1, e2]
theorem mem_cols {xs : List C3} {k : Nat} (h : k < 6) : (k : Int) ∈ cols xs 6 ↔ usd xs (k : Int) xs.length = true := by
  unfold cols
  rw [List.mem_map]
  constructor
  · rintro ⟨j, hj, he⟩
    have : j = k := by omega
    subst this
    exact (List.mem_filter.1 hj).2
  · intro hu
    exact ⟨k, List.mem_filter.2 ⟨List.mem_range.2 h, hu⟩, rfl⟩
theorem bst_max (t : List Int) : ∀ k : Nat, ∀ j, j < k → t.getD j 0 ≤ t.getD (bst t k).toNat 0
  | 0, j, h => by omega
  | k + 1, j, h => by
    have ih := bst_max t k
    obtain ⟨r0, r1, r2⟩ := bst_range t k
    have e : bst t (k + 1) = if bst t k < 0 ∨ t.getD (bst t k).toNat 0 < t.getD k 0 then (k : Int) else bst t k := rfl
    rw [e]
    split
    · rename_i hc
      rw [Int.toNat_natCast]
      rcases Nat.lt_succ_iff_lt_or_eq.1 h with h | rfl
      · have := ih j h
        rcases hc with hc | hc
        · have := r2 (by omega); omega
        · omega
      · exact Int.le_refl _
    · rename_i hc
      rcases Nat.lt_succ_iff_lt_or_eq.1 h with h | rfl
      · exact ih j h
      · by_cases h1 : t.getD j 0 ≤ t.getD (bst t j).toNat 0
        · exact h1
        · exact absurd (Or.inr (by omega)) hc
theorem tri_star : trisOf 3 starC = 8 := by rw [tris_yes star_ok]; decide
theorem ar2_self (c : C3) (h : c.a = c.b) : ar2 c c.a = 4 ∧ ar2 c c.b = 4 := by unfold ar2; simp [h]
theorem ar2_two (c : C3) (h : ¬ c.a = c.b) : ar2 c c.a = 2 ∧ ar2 c c.b = 2 := by unfold ar2; simp [h, Ne.symm h]
/-- Balanced, said of the table. -/
theorem bal_tab {n : Int} {xs : List C3} (h : BlkOk n xs) : BalP n xs ↔ ∀ k, k < (cols xs 6).length → (tab xs 6).getD ((cols xs 6).getD k 0).toNat 0 = (tab xs 6).getD ((cols xs 6).getD 0 0).toNat 0 := by
  have hp := cols_pos h
  have key : ∀ k, k < (cols xs 6).length → (tab xs 6).getD ((cols xs 6).getD k 0).toNat 0 = arL xs ((cols xs 6).getD k 0) xs.length := fun k hk => by
    obtain ⟨j, hj, hj6⟩ := cols_at hk
    rw [hj, Int.toNat_natCast, tab_at xs hj6]
  constructor
  · intro hb k hk
    rw [key k hk, key 0 hp]
    exact hb.2 k hk
  · intro hb
    refine ⟨h, fun k hk => ?_⟩
    rw [← key k hk, ← key 0 hp]
    exact hb k hk

/-- The first k colors of the list have one area, as the law reckons it. -/
noncomputable def balK (t l : List Int) (k : Nat) : Bool := @decide (∀ j, j < k → t.getD (l.getD j 0).toNat 0 = t.getD (l.getD 0 0).toNat 0) (Classical.propDecidable _)
theorem balK_zero (t l : List Int) : true = balK t l 0 := by unfold balK; simp
theorem balK_succ (t l : List Int) (k : Nat) : balK t l (k + 1) = (balK t l k && (t.getD (l.getD k 0).toNat 0 == t.getD (l.getD 0 0).toNat 0)) := by
  unfold balK
  rw [Bool.eq_iff_iff]
  simp only [decide_eq_true_eq, Bool.and_eq_true, beq_iff_eq]
  constructor
  · intro h
    exact ⟨fun j hj => h j (by omega), h k (by omega)⟩
  · rintro ⟨h1, h2⟩ j hj
    rcases Nat.lt_succ_iff_lt_or_eq.1 hj with h | rfl
    · exact h1 j h
    · exact h2
theorem balK_is {n : Int} {xs : List C3} (h : BlkOk n xs) : balK (tab xs 6) (cols xs 6) (cols xs 6).length = balB n xs := by
  unfold balK balB
  rw [Bool.eq_iff_iff]
  simp only [decide_eq_true_eq]
  exact (bal_tab h).symm

set_option maxHeartbeats 400000 in
theorem Has_no (lo hi : Nat) (v : Value) (zs : List Int) (z : Int) (w : World) (r : IntIn lo hi w v zs) (hz : ¬ z ∈ zs) :
    Calls Try.prog 15 #[v, .int .i64 z] w fun e w' => e = .returned (.bool false) ∧ w' = w := by
  obtain ⟨a1, c1, rfl⟩ := r.form
  have R := Lib.hid r
  have HZ := Lib.hid hz
  have hl := r.1
  clear r hz
  go_enter Try.func15, Try.ntmps15
  go_wp2_with fail
  go_loop [5] (fun i => ∃ k : Nat, k ≤ zs.length ∧ i = .int .i64 k) (fun i => zs.length - (intOf i).toNat)
  case atStart => exact ⟨0, Nat.zero_le _, rfl⟩
  case round =>
    obtain ⟨k, hk, rfl⟩ := hrel
    by_cases hlt : k < zs.length
    · obtain ⟨g, rfl, _, _, e0, _⟩ := R.out.at (Below.refl _ _) hlt
      have he : ¬ zs.getD k 0 = z := fun h => HZ.out (by rw [← h]; simp [List.getD, hlt])
      have hb : (zs.getD k 0 == z) = false := by simpa using he
      generalize zs.getD k 0 = c at e0 hb
      clear he
      go_wp2_with fail
      go_round
      case rel => exact ⟨k + 1, by omega, by go_num⟩
      case measure => simp [intOf] <;> omega
    · obtain rfl : k = zs.length := by omega
      go_wp2_with fail
      go_ret
      exact ⟨rfl, rfl⟩

end Go.Proofs.Ytelpibdbnjmliaa
