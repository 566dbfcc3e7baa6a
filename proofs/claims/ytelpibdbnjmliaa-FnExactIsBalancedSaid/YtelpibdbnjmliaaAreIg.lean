/- Areas: numbers of the program's MainColor and IsBalanced. -/
import Derived.Test.YtelpibdbnjmliaaAreIf
namespace Go.Proofs.Ytelpibdbnjmliaa
open Go.ChangeShapes Go.WideShapes Go.ChangeAt Go.RowKit Go.Maps

/-- The first of the first k numbers of t with the greatest F. -/
def bstC (F : Int → Int) (t : List Int) : Nat → Int
  | 0 => -1
  | k + 1 => if bstC F t k < 0 ∨ F (bstC F t k) < F (t.getD k 0) then t.getD k 0 else bstC F t k
theorem bstC_range (F : Int → Int) (t : List Int) (ht : ∀ k, k < t.length → 0 ≤ t.getD k 0 ∧ t.getD k 0 ≤ 5) : ∀ k, k ≤ t.length → -1 ≤ bstC F t k ∧ bstC F t k ≤ 5
  | 0, _ => by simp [bstC]
  | k + 1, h => by
    have ih := bstC_range F t ht k (by omega)
    have := ht k (by omega)
    unfold bstC
    split <;> omega
theorem bstC_pre (F : Int → Int) (t s : List Int) : ∀ k, k ≤ t.length → bstC F (t ++ s) k = bstC F t k
  | 0, _ => rfl
  | k + 1, h => by
    have e : (t ++ s).getD k 0 = t.getD k 0 := by simp [List.getD, List.getElem?_append, show k < t.length by omega]
    unfold bstC
    rw [bstC_pre F t s k (by omega), e]
/-- The greatest of all is the greatest of those that are used. -/
theorem bst_cols {xs : List C3} : ∀ c, c ≤ 6 → (cols xs c = [] ∧ (c = 0 ∨ bst (tab xs 6) c = 0 ∧ arL xs 0 xs.length = 0)) ∨ (0 < (cols xs c).length ∧ bst (tab xs 6) c = bstC (fun j => arL xs j xs.length) (cols xs c) (cols xs c).length)
  | 0, _ => .inl ⟨rfl, .inl rfl⟩
  | c + 1, h => by
    have ih := bst_cols (xs := xs) c (by omega)
    obtain ⟨r0, r1, r2⟩ := bst_range (tab xs 6) c
    have hb : bst (tab xs 6) (c + 1) = if bst (tab xs 6) c < 0 ∨ (tab xs 6).getD (bst (tab xs 6) c).toNat 0 < (tab xs 6).getD c 0 then (c : Int) else bst (tab xs 6) c := rfl
    have hu := usd_area xs (c : Int) xs.length (Nat.le_refl _)
    have hp := arL_bound xs (c : Int) xs.length (Nat.le_refl _)
    have hs := cols_succ xs c
    have htc : (tab xs 6).getD c 0 = arL xs (c : Int) xs.length := tab_at xs (by omega)
    have htb : 0 ≤ bst (tab xs 6) c → (tab xs 6).getD (bst (tab xs 6) c).toNat 0 = arL xs (bst (tab xs 6) c) xs.length := fun h0 => by
      rw [tab_at xs (by omega)]
      congr 1
      omega
    rw [htc] at hb
    rw [hu] at hs
    by_cases hz : 0 < arL xs (c : Int) xs.length
    · rw [if_pos (by simpa using hz)] at hs
      refine .inr ⟨by rw [hs]; simp, ?_⟩
      have hlen : (cols xs (c + 1)).length = (cols xs c).length + 1 := by rw [hs]; simp
      have hlast : (cols xs (c + 1)).getD (cols xs c).length 0 = c := by rw [hs]; simp [List.getD]
      have hpre : bstC (fun j => arL xs j xs.length) (cols xs (c + 1)) (cols xs c).length = bstC (fun j => arL xs j xs.length) (cols xs c) (cols xs c).length := by rw [hs]; exact bstC_pre _ _ _ _ (Nat.le_refl _)
      rw [hlen]
      unfold bstC
      rw [hlast, hpre]
      rcases ih with ⟨h1, h2⟩ | ⟨h1, h2⟩
      · have e : bstC (fun j => arL xs j xs.length) (cols xs c) (cols xs c).length = -1 := by rw [h1]; rfl
        rw [e, if_pos (.inl (by omega)), hb]
        rcases h2 with rfl | ⟨h2, h3⟩
        · rw [if_pos (.inl (by simp [bst]))]
        · rw [htb (by omega), h2, h3, if_pos (.inr hz)]
      · rw [← h2, hb]
        by_cases h0 : bst (tab xs 6) c < 0
        · rw [if_pos (.inl h0), if_pos (.inl h0)]
        · rw [htb (by omega)]
    · rw [if_neg (by simpa using hz)] at hs
      simp only [List.append_nil] at hs
      have hz0 : arL xs (c : Int) xs.length = 0 := by omega
      rw [hs, hb]
      rcases ih with ⟨h1, h2⟩ | ⟨h1, h2⟩
      · refine .inl ⟨h1, .inr ?_⟩
        rcases h2 with rfl | ⟨h2, h3⟩
        · rw [if_pos (.inl (by simp [bst]))]
          exact ⟨rfl, hz0⟩
        · rw [htb (by omega), h2, h3, hz0, if_neg (by omega)]
          exact ⟨rfl, rfl⟩
      · refine .inr ⟨h1, ?_⟩
        have hc0 : ¬ c = 0 := fun e => by subst e; simp [cols] at h1
        rw [htb (by omega)]
        have := arL_bound xs (bst (tab xs 6) c) xs.length (Nat.le_refl _)
        rw [if_neg (by omega)]
        exact h2
theorem bstC_congr {F G : Int → Int} (t : List Int) (h : ∀ j, F j = G j) (k : Nat) : bstC F t k = bstC G t k := by
  have : F = G := funext h
  rw [this]
theorem main_is (n : Int) (xs : List C3) : mainOf n xs = bstC (areaOf n xs) (colorsOf n xs) (colorsOf n xs).length := by
  unfold mainOf
  by_cases hb : BlkOk n xs
  · rw [table_yes hb, colors_yes hb, tab_length, bstC_congr (cols xs 6) (fun j => area_yes j hb)]
    rcases bst_cols (xs := xs) 6 (Nat.le_refl _) with ⟨h1, _⟩ | ⟨_, h2⟩
    · have := cols_pos hb
      rw [h1] at this
      exact absurd this (by simp)
    · exact h2
  · rw [table_no hb, colors_no hb]
    rfl

/-! ### Balanced -/
theorem sum_filter (f : Nat → Int) (p : Nat → Bool) : ∀ l : List Nat, (∀ x ∈ l, p x = false → f x = 0) → ((l.filter p).map f).sum = (l.map f).sum
  | [], _ => rfl
  | x :: l, h => by
    have ih := sum_filter f p l (fun y hy => h y (List.mem_cons_of_mem _ hy))
    by_cases hx : p x = true
    · simp [hx, ih]
    · have h0 := h x (by simp) (by simpa using hx)
      simp [hx, ih, h0]
theorem sum_const (f : Int → Int) (K : Int) : ∀ l : List Int, (∀ x ∈ l, f x = K) → (l.map f).sum = K * l.length
  | [], _ => by simp
  | x :: l, h => by
    have ih := sum_const f K l (fun y hy => h y (List.mem_cons_of_mem _ hy))
    have h0 := h x (by simp)
    simp only [List.map_cons, List.sum_cons, List.length_cons, ih, h0]
    rw [Int.natCast_add, Int.mul_add]
    omega
theorem sum_cols {n : Int} {xs : List C3} (hb : BlkOk n xs) : ((cols xs 6).map (fun j => arL xs j xs.length)).sum = 4 * xs.length := by
  have h1 := arL_all hb.2.2 xs.length (Nat.le_refl _)
  have e : ((cols xs 6).map (fun j => arL xs j xs.length)) = (((List.range 6).filter (fun d : Nat => usd xs (d : Int) xs.length)).map (fun d : Nat => arL xs (d : Int) xs.length)) := by
    unfold cols
    rw [List.map_map]
    rfl
  rw [e, sum_filter _ _ _ (fun d _ hd => by
    rw [usd_area xs (d : Int) xs.length (Nat.le_refl _)] at hd
    have := arL_bound xs (d : Int) xs.length (Nat.le_refl _)
    simp at hd
    omega)]
  simp [List.range_succ]
  omega
theorem bal_iff {n : Int} {xs : List C3} (hb : BlkOk n xs) : BalP n xs ↔ ∀ x ∈ cols xs 6, arL xs x xs.length * ((cols xs 6).length : Int) = 4 * (xs.length : Int) := by
  have hp := cols_pos hb
  have hs := sum_cols hb
  have at_ : ∀ x ∈ cols xs 6, ∃ k, k < (cols xs 6).length ∧ x = (cols xs 6).getD k 0 := fun x hx => by
    obtain ⟨k, hk, rfl⟩ := List.getElem_of_mem hx
    exact ⟨k, hk, by simp [List.getD, hk]⟩
  constructor
  · intro h x hx
    have hall : ∀ y ∈ cols xs 6, arL xs y xs.length = arL xs ((cols xs 6).getD 0 0) xs.length := fun y hy => by
      obtain ⟨k, hk, rfl⟩ := at_ y hy
      exact h.2 k hk
    rw [sum_const _ _ _ hall] at hs
    rw [hall x hx, hs]
  · intro h
    refine ⟨hb, fun k hk => ?_⟩
    have h1 := h ((cols xs 6).getD k 0) (by simp [List.getD, hk])
    have h2 := h ((cols xs 6).getD 0 0) (by simp [List.getD, hp])
    exact Int.eq_of_mul_eq_mul_right (a := ((cols xs 6).length : Int)) (by omega) (h1.trans h2.symm)

end Go.Proofs.Ytelpibdbnjmliaa
