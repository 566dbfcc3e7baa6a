/- Joins: the program's haveWholeSide, sewn and lengthOfSeam. -/
import Derived.Test.YtboahceibeeifaaJnIa
import Derived.Test.YtboahceibeeifaaUnR
import Derived.Test.YtboahceibeeifaaLayB
set_option linter.unusedSimpArgs false
set_option linter.unusedVariables false
namespace Go.Proofs.Ytboahceibeeifaa
open Go.ChangeShapes Go.WideShapes Go.ChangeAt Go.RowKit

set_option maxHeartbeats 1600000 in
set_option maxRecDepth 20000 in
theorem Whole_any (m n : Int) (up : Bool) (a b : P5) (w : World) (hm : m ≤ 12) (hn : n ≤ 12) (ha : Fit m n a) (hb : Fit m n b) :
    Calls Try.prog 75 #[.bool up, .agg #[.int .i64 a.x, .int .i64 a.y, .int .i64 a.w, .int .i64 a.h, .int .i64 a.c], .agg #[.int .i64 b.x, .int .i64 b.y, .int .i64 b.w, .int .i64 b.h, .int .i64 b.c]] w fun e w' => e = .returned (.bool (decide (Side up a b))) ∧ Below w.heap.size w w' := by
  obtain ⟨⟨f00, f01⟩, ⟨f10, f11⟩, ⟨f20, f21⟩, ⟨f30, f31⟩, _⟩ := ha
  obtain ⟨⟨g00, g01⟩, ⟨g10, g11⟩, ⟨g20, g21⟩, ⟨g30, g31⟩, _⟩ := hb
  obtain ⟨ax, ay, aw, ah, ac⟩ := a
  obtain ⟨bx, bY, bw, bh, bc⟩ := b
  simp only at f00 f01 f10 f11 f20 f21 f30 f31 g00 g01 g10 g11 g20 g21 g30 g31
  cases up
  · skip
    have HE : Hid (decide (Side false ⟨ax, ay, aw, ah, ac⟩ ⟨bx, bY, bw, bh, bc⟩) = ((ay + ah == bY) && (ax == bx) && (aw == bw))) := Lib.hid (by
      rw [Bool.eq_iff_iff]; simp [Side, and_assoc])
    obtain ⟨d1, hd1⟩ : ∃ d, (ay + ah == bY) = d := ⟨_, rfl⟩
    obtain ⟨d2, hd2⟩ : ∃ d, (ax == bx) = d := ⟨_, rfl⟩
    obtain ⟨d3, hd3⟩ : ∃ d, (aw == bw) = d := ⟨_, rfl⟩
    rw [hd1, hd2, hd3] at HE
    cases d1
    all_goals cases d2
    all_goals cases d3
    all_goals
      go_enter Try.func75, Try.ntmps75
      go_wp2_with fail
      go_ret
      exact ⟨ret_bool (by rw [HE.out]; rfl), bel_n (bel0 w _) (Nat.le_refl _) _⟩
  · skip
    have HE : Hid (decide (Side true ⟨ax, ay, aw, ah, ac⟩ ⟨bx, bY, bw, bh, bc⟩) = ((ax + aw == bx) && (ay == bY) && (ah == bh))) := Lib.hid (by
      rw [Bool.eq_iff_iff]; simp [Side, and_assoc])
    obtain ⟨d1, hd1⟩ : ∃ d, (ax + aw == bx) = d := ⟨_, rfl⟩
    obtain ⟨d2, hd2⟩ : ∃ d, (ay == bY) = d := ⟨_, rfl⟩
    obtain ⟨d3, hd3⟩ : ∃ d, (ah == bh) = d := ⟨_, rfl⟩
    rw [hd1, hd2, hd3] at HE
    cases d1
    all_goals cases d2
    all_goals cases d3
    all_goals
      go_enter Try.func75, Try.ntmps75
      go_wp2_with fail
      go_ret
      exact ⟨ret_bool (by rw [HE.out]; rfl), bel_n (bel0 w _) (Nat.le_refl _) _⟩

set_option maxHeartbeats 1600000 in
set_option maxRecDepth 20000 in
theorem Sewn_any (m n : Int) (up : Bool) (a b : P5) (w : World) (hm : m ≤ 12) (hn : n ≤ 12) (ha : Fit m n a) (hb : Fit m n b) :
    Calls Try.prog 67 #[.bool up, .agg #[.int .i64 a.x, .int .i64 a.y, .int .i64 a.w, .int .i64 a.h, .int .i64 a.c], .agg #[.int .i64 b.x, .int .i64 b.y, .int .i64 b.w, .int .i64 b.h, .int .i64 b.c]] w fun e w' => e = .returned (.agg #[.int .i64 (sewP up a b).x, .int .i64 (sewP up a b).y, .int .i64 (sewP up a b).w, .int .i64 (sewP up a b).h, .int .i64 (sewP up a b).c]) ∧ Below w.heap.size w w' := by
  obtain ⟨⟨f00, f01⟩, ⟨f10, f11⟩, ⟨f20, f21⟩, ⟨f30, f31⟩, _⟩ := ha
  obtain ⟨⟨g00, g01⟩, ⟨g10, g11⟩, ⟨g20, g21⟩, ⟨g30, g31⟩, _⟩ := hb
  obtain ⟨ax, ay, aw, ah, ac⟩ := a
  obtain ⟨bx, bY, bw, bh, bc⟩ := b
  simp only at f00 f01 f10 f11 f20 f21 f30 f31 g00 g01 g10 g11 g20 g21 g30 g31
  cases up
  · go_enter Try.func67, Try.ntmps67
    go_wp2_with fail
    refine bodyPost_ret (v := .agg #[.int .i64 ax, .int .i64 ay, .int .i64 aw, .int .i64 (ah + bh), .int .i64 ac]) (by simp [results, Try.results67, go_sem]) rfl ⟨by simp [sewP], ?_⟩
    exact bel_n (bel_n (bel0 w _) (Nat.le_refl _) _) (Nat.le_refl _) _
  · go_enter Try.func67, Try.ntmps67
    go_wp2_with fail
    refine bodyPost_ret (v := .agg #[.int .i64 ax, .int .i64 ay, .int .i64 (aw + bw), .int .i64 ah, .int .i64 ac]) (by simp [results, Try.results67, go_sem]) rfl ⟨by simp [sewP], ?_⟩
    exact bel_n (bel_n (bel0 w _) (Nat.le_refl _) _) (Nat.le_refl _) _

theorem Leng_any (up : Bool) (a : P5) (w : World) :
    Calls Try.prog 44 #[.bool up, .agg #[.int .i64 a.x, .int .i64 a.y, .int .i64 a.w, .int .i64 a.h, .int .i64 a.c]] w fun e w' => e = .returned (.int .i64 (if up then a.h else a.w)) ∧ Below w.heap.size w w' := by
  cases up
  all_goals
    go_enter Try.func44, Try.ntmps44
    go_wp2_with fail
    go_ret
    exact ⟨ret_int (by simp), bel0 w _⟩

end Go.Proofs.Ytboahceibeeifaa
