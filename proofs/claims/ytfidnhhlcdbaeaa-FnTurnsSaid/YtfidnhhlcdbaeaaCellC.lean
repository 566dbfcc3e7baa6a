/- Cells: the model's ColorAt. -/
import Derived.Test.YtfidnhhlcdbaeaaCellG
namespace Go.Proofs.Ytfidnhhlcdbaeaa
open Go.ChangeShapes Go.WideShapes Go.ChangeAt Go.RowKit

theorem SpecColor_any (s a b d : Int) (w : World) :
    Calls Try.prog 9 #[.agg #[.int .i64 s, .int .i64 a, .int .i64 b], .int .i64 d] w fun e w' => e = .returned (.int .i64 (colAt s a b d)) ∧ Below w.heap.size w w' := by
  by_cases k : OkC s a b
  · have k' := Lib.hid (decide_eq_true k)
    by_cases hd : 0 ≤ d ∧ d ≤ 3
    · obtain ⟨d0, d1⟩ := hd
      by_cases h : d = 0 ∨ (d = 1 ∧ s = 1) ∨ (d = 3 ∧ s = 2)
      · rw [colAt_a k d0 d1 h]
        clear k
        rcases h with rfl | ⟨rfl, rfl⟩ | ⟨rfl, rfl⟩
        all_goals
          go_enter Try.func9, Try.ntmps9
          go_wp2_with (first | (refine (SpecOk_any _ _ _ _).mono ?_; rw [k'.out]; rintro e w' ⟨rfl, rfl⟩) | (refine (In_yes _ _ _ _ (by decide) (by decide)).mono ?_; rintro e w' ⟨rfl, rfl⟩))
          go_ret
          exact ⟨rfl, ((Below.refl _ _).alloc (Nat.le_refl _) _).alloc (by simp) _⟩
      · rw [colAt_b k d0 d1 h]
        clear k
        rcases side_cases d0 d1 with rfl | rfl | rfl | rfl
        · omega
        · have h1 : ¬ s = 1 := by omega
          clear h
          go_enter Try.func9, Try.ntmps9
          go_wp2_with (first | (refine (SpecOk_any _ _ _ _).mono ?_; rw [k'.out]; rintro e w' ⟨rfl, rfl⟩) | (refine (In_yes _ _ _ _ (by decide) (by decide)).mono ?_; rintro e w' ⟨rfl, rfl⟩))
          go_ret
          exact ⟨rfl, ((Below.refl _ _).alloc (Nat.le_refl _) _).alloc (by simp) _⟩
        · clear h
          go_enter Try.func9, Try.ntmps9
          go_wp2_with (first | (refine (SpecOk_any _ _ _ _).mono ?_; rw [k'.out]; rintro e w' ⟨rfl, rfl⟩) | (refine (In_yes _ _ _ _ (by decide) (by decide)).mono ?_; rintro e w' ⟨rfl, rfl⟩))
          go_ret
          exact ⟨rfl, ((Below.refl _ _).alloc (Nat.le_refl _) _).alloc (by simp) _⟩
        · have h1 : ¬ s = 2 := by omega
          clear h
          go_enter Try.func9, Try.ntmps9
          go_wp2_with (first | (refine (SpecOk_any _ _ _ _).mono ?_; rw [k'.out]; rintro e w' ⟨rfl, rfl⟩) | (refine (In_yes _ _ _ _ (by decide) (by decide)).mono ?_; rintro e w' ⟨rfl, rfl⟩))
          go_ret
          exact ⟨rfl, ((Below.refl _ _).alloc (Nat.le_refl _) _).alloc (by simp) _⟩
    · have hd' : d < 0 ∨ 3 < d := by omega
      rw [colAt_out s a b hd']
      clear hd k
      go_enter Try.func9, Try.ntmps9
      go_wp2_with (first | (refine (SpecOk_any _ _ _ _).mono ?_; rw [k'.out]; rintro e w' ⟨rfl, rfl⟩) | (refine (In_no _ _ _ _ (by assumption)).mono ?_; rintro e w' ⟨rfl, rfl⟩))
      go_ret
      exact ⟨rfl, ((Below.refl _ _).alloc (Nat.le_refl _) _).alloc (by simp) _⟩
  · rw [colAt_bad d k]
    have k' := Lib.hid (decide_eq_false k)
    clear k
    go_enter Try.func9, Try.ntmps9
    go_wp2_with (refine (SpecOk_any _ _ _ _).mono ?_; rw [k'.out]; rintro e w' ⟨rfl, rfl⟩)
    go_ret
    exact ⟨rfl, ((Below.refl _ _).alloc (Nat.le_refl _) _).alloc (by simp) _⟩

end Go.Proofs.Ytfidnhhlcdbaeaa
