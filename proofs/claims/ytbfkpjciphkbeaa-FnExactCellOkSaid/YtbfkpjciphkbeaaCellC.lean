/- Cells: ColorAt of both. -/
import Derived.Test.YtbfkpjciphkbeaaCellW
namespace Go.Proofs.Ytbfkpjciphkbeaa
open Go.ChangeShapes Go.WideShapes Go.ChangeAt Go.RowKit

/-- The color at a side. -/
def colAt (s a b d : Int) : Int := if OkC s a b ∧ 0 ≤ d ∧ d ≤ 3 then (if d = 0 ∨ (d = 1 ∧ s = 1) ∨ (d = 3 ∧ s = 2) then a else b) else -1

theorem colAt_bad {s a b : Int} (d : Int) (k : ¬ OkC s a b) : colAt s a b d = -1 := if_neg (fun h => k h.1)
theorem colAt_out {d : Int} (s a b : Int) (k : d < 0 ∨ 3 < d) : colAt s a b d = -1 := if_neg (fun h => by omega)
theorem colAt_a {s a b d : Int} (k : OkC s a b) (d0 : 0 ≤ d) (d1 : d ≤ 3) (h : d = 0 ∨ (d = 1 ∧ s = 1) ∨ (d = 3 ∧ s = 2)) : colAt s a b d = a := by
  unfold colAt; rw [if_pos ⟨k, d0, d1⟩, if_pos h]
theorem colAt_b {s a b d : Int} (k : OkC s a b) (d0 : 0 ≤ d) (d1 : d ≤ 3) (h : ¬ (d = 0 ∨ (d = 1 ∧ s = 1) ∨ (d = 3 ∧ s = 2))) : colAt s a b d = b := by
  unfold colAt; rw [if_pos ⟨k, d0, d1⟩, if_neg h]

theorem ret_num {a b : Int} (h : a = b) : Ending.returned (.int .i64 a) = .returned (.int .i64 b) := by rw [h]

/-- What is left when a cell is valid and a side is there: the four sides, the three kinds. -/
theorem side_cases {d : Int} (d0 : 0 ≤ d) (d1 : d ≤ 3) : d = 0 ∨ d = 1 ∨ d = 2 ∨ d = 3 := by omega

theorem SpecColor_any (s a b d : Int) (w : World) :
    Calls Try.prog 15 #[.agg #[.int .i64 s, .int .i64 a, .int .i64 b], .int .i64 d] w fun e w' => e = .returned (.int .i64 (colAt s a b d)) ∧ Below w.heap.size w w' := by
  by_cases k : OkC s a b
  · have k' := Lib.hid (decide_eq_true k)
    by_cases hd : 0 ≤ d ∧ d ≤ 3
    · obtain ⟨d0, d1⟩ := hd
      by_cases h : d = 0 ∨ (d = 1 ∧ s = 1) ∨ (d = 3 ∧ s = 2)
      · rw [colAt_a k d0 d1 h]
        clear k
        rcases h with rfl | ⟨rfl, rfl⟩ | ⟨rfl, rfl⟩
        all_goals
          go_enter Try.func15, Try.ntmps15
          go_wp2_with (first | (refine (SpecOk_any _ _ _ _).mono ?_; rw [k'.out]; rintro e w' ⟨rfl, rfl⟩) | (refine (In_yes _ _ _ _ (by decide) (by decide)).mono ?_; rintro e w' ⟨rfl, rfl⟩))
          go_ret
          exact ⟨rfl, ((Below.refl _ _).alloc (Nat.le_refl _) _).alloc (by simp) _⟩
      · rw [colAt_b k d0 d1 h]
        clear k
        rcases side_cases d0 d1 with rfl | rfl | rfl | rfl
        · omega
        · have h1 : ¬ s = 1 := by omega
          clear h
          go_enter Try.func15, Try.ntmps15
          go_wp2_with (first | (refine (SpecOk_any _ _ _ _).mono ?_; rw [k'.out]; rintro e w' ⟨rfl, rfl⟩) | (refine (In_yes _ _ _ _ (by decide) (by decide)).mono ?_; rintro e w' ⟨rfl, rfl⟩))
          go_ret
          exact ⟨rfl, ((Below.refl _ _).alloc (Nat.le_refl _) _).alloc (by simp) _⟩
        · clear h
          go_enter Try.func15, Try.ntmps15
          go_wp2_with (first | (refine (SpecOk_any _ _ _ _).mono ?_; rw [k'.out]; rintro e w' ⟨rfl, rfl⟩) | (refine (In_yes _ _ _ _ (by decide) (by decide)).mono ?_; rintro e w' ⟨rfl, rfl⟩))
          go_ret
          exact ⟨rfl, ((Below.refl _ _).alloc (Nat.le_refl _) _).alloc (by simp) _⟩
        · have h1 : ¬ s = 2 := by omega
          clear h
          go_enter Try.func15, Try.ntmps15
          go_wp2_with (first | (refine (SpecOk_any _ _ _ _).mono ?_; rw [k'.out]; rintro e w' ⟨rfl, rfl⟩) | (refine (In_yes _ _ _ _ (by decide) (by decide)).mono ?_; rintro e w' ⟨rfl, rfl⟩))
          go_ret
          exact ⟨rfl, ((Below.refl _ _).alloc (Nat.le_refl _) _).alloc (by simp) _⟩
    · have hd' : d < 0 ∨ 3 < d := by omega
      rw [colAt_out s a b hd']
      clear hd k
      go_enter Try.func15, Try.ntmps15
      go_wp2_with (first | (refine (SpecOk_any _ _ _ _).mono ?_; rw [k'.out]; rintro e w' ⟨rfl, rfl⟩) | (refine (In_no _ _ _ _ (by assumption)).mono ?_; rintro e w' ⟨rfl, rfl⟩))
      go_ret
      exact ⟨rfl, ((Below.refl _ _).alloc (Nat.le_refl _) _).alloc (by simp) _⟩
  · rw [colAt_bad d k]
    have k' := Lib.hid (decide_eq_false k)
    clear k
    go_enter Try.func15, Try.ntmps15
    go_wp2_with (refine (SpecOk_any _ _ _ _).mono ?_; rw [k'.out]; rintro e w' ⟨rfl, rfl⟩)
    go_ret
    exact ⟨rfl, ((Below.refl _ _).alloc (Nat.le_refl _) _).alloc (by simp) _⟩

end Go.Proofs.Ytbfkpjciphkbeaa
