/- The walk of FnExactCountSeams. -/
import Derived.Test.YtakjgnkkeefgbaaCutIm
import Derived.Test.YtakjgnkkeefgbaaCutSd
import Derived.Test.YtakjgnkkeefgbaaLayN3
namespace Go.Proofs.Ytakjgnkkeefgbaa
open Go.ChangeShapes Go.WideShapes Go.ChangeAt Go.RowKit

set_option maxHeartbeats 1000000 in
theorem SeamsLaw_walk (m n : Int) (a : Option Addr) (len cap : Nat) (xs : List P5) (w : World) (x0 : ArgPat w a len xs) (wf : ∀ c ∈ xs, c.Wf) :
    Calls Try.prog 8 #[.agg #[.int .i64 m, .int .i64 n, .slice a len cap]] w fun e w' => e = .returned (.bool true) ∧ Below w.heap.size w w' := by
  have hm : len ≤ 9223372036854775807 := by have := x0.2.1; unfold maxLen at this; omega
  have HA : Hid (∀ W, Below w.heap.size w W → ArgPat W a len xs) := Lib.hid (fun W hb => x0.below hb)
  clear x0
  by_cases hl : len ≤ 1048576
  · have hs : ¬ ((1048576 : Int) - (len : Int) < 0) := by omega
    have hl' : (len : Int) ≤ 1048576 := by omega
    go_enter Try.func8, Try.ntmps8
    go_wp2_with fail
    refine (SzL_yes m n a len cap 1048576 _ (by omega) hl').mono ?_
    rintro e w1 ⟨rfl, hb1⟩
    have T1 := (Tri.new w (.int .i64 m) (.int .i64 n) (.slice a len cap) 43).keep hb1
    have B1 := bel_c (bel0 w _) (Nat.le_refl _) hb1
    clear hb1
    obtain ⟨c0, c1, c2⟩ := id T1
    go_wp2_with fail
    clear c0 c1 c2
    refine (ToLayout_any m n a len cap xs _ (HA.out _ B1) hl).mono ?_
    rintro e w2 ⟨v2, rfl, in2, hb2⟩
    have T2 := T1.keep hb2
    have B2 := bel_c B1 (Nat.le_refl _) hb2
    clear hb2 T1 B1
    go_wp2_with fail
    refine (SpecCountSeams_any _ _ m n v2 xs _ in2 (Nat.le_refl _)).mono ?_
    generalize hok : seamsB m n xs = ok
    have HOK := Lib.hid hok
    clear hok
    rintro e w3 ⟨rfl, hb3⟩
    have T3 := T2.keep hb3
    have B3 := bel_c B2 (Nat.le_refl _) hb3
    clear hb3 T2 B2 in2
    obtain ⟨c0, c1, c2⟩ := id T3
    go_wp2_with fail
    clear c0 c1 c2
    refine (ToLayout_any m n a len cap xs _ (HA.out _ B3) hl).mono ?_
    rintro e w4 ⟨v4, rfl, in4, hb4⟩
    obtain ⟨a4, c4, rfl⟩ := in4.form
    have NB := bel0 w4 (.cells #[.int .i64 m, .int .i64 n, .slice a4 xs.length c4] 26)
    have T5 := (T3.keep hb4).keep NB
    have B5 := bel_n (bel_c B3 (Nat.le_refl _) hb4) (Nat.le_refl _) (.cells #[.int .i64 m, .int .i64 n, .slice a4 xs.length c4] 26)
    have I5 := in4.below NB
    have Q5 := Tri.new w4 (.int .i64 m) (.int .i64 n) (.slice a4 xs.length c4) 26
    clear hb4 T3 B3 in4 NB
    go_wp2_with fail
    refine (ImplCountSeams_any 0 _ m n _ xs wf _ (I5.wide (Nat.zero_le _) (Nat.le_refl _)) (by simp) (Nat.zero_le _)).mono ?_
    rw [HOK.out]
    rintro e w6 ⟨rfl, hb6⟩
    have T6 := T5.keep hb6
    have Q6 := Q5.keep hb6
    have I6 := Lib.hid (I5.below (hb6.mono (by simp)))
    have B6 := Lib.hid (bel_c B5 (Nat.le_refl _) hb6)
    have z6 : w4.heap.size ≤ w6.heap.size := by have := hb6.size; simp at this; omega
    clear hb6 T5 Q5 I5 B5
    have KP : ∀ u v, Below u.heap.size u v → (u.cell? ⟨w.heap.size, 0, none⟩ = some (.int .i64 m) ∧ u.cell? ⟨w.heap.size, 1, none⟩ = some (.int .i64 n) ∧ u.cell? ⟨w.heap.size, 2, none⟩ = some (.slice a len cap) ∧ u.cell? ⟨w4.heap.size, 0, none⟩ = some (.int .i64 m) ∧ u.cell? ⟨w4.heap.size, 1, none⟩ = some (.int .i64 n) ∧ u.cell? ⟨w4.heap.size, 2, none⟩ = some (.slice a4 xs.length c4)) → (v.cell? ⟨w.heap.size, 0, none⟩ = some (.int .i64 m) ∧ v.cell? ⟨w.heap.size, 1, none⟩ = some (.int .i64 n) ∧ v.cell? ⟨w.heap.size, 2, none⟩ = some (.slice a len cap) ∧ v.cell? ⟨w4.heap.size, 0, none⟩ = some (.int .i64 m) ∧ v.cell? ⟨w4.heap.size, 1, none⟩ = some (.int .i64 n) ∧ v.cell? ⟨w4.heap.size, 2, none⟩ = some (.slice a4 xs.length c4)) :=
      fun u v hb h => ⟨kept hb h.1, kept hb h.2.1, kept hb h.2.2.1, kept hb h.2.2.2.1, kept hb h.2.2.2.2.1, kept hb h.2.2.2.2.2⟩
    obtain ⟨c0, c1, c2⟩ := T6
    obtain ⟨d0, d1, d2⟩ := Q6
    have D6 : Below w6.heap.size w6 w6.drew := ⟨rfl, rfl, rfl, Nat.le_refl _, fun _ _ => rfl⟩
    have B7 := Lib.hid (bel_c B6.out (Nat.le_refl _) D6)
    have I7 := Lib.hid (I6.out.below (D6.mono z6))
    clear D6
    all_goals
      go_wp2_with fail
      go_region_held3 (fun w' => w'.cell? ⟨w.heap.size, 0, none⟩ = some (.int .i64 m) ∧ w'.cell? ⟨w.heap.size, 1, none⟩ = some (.int .i64 n) ∧ w'.cell? ⟨w.heap.size, 2, none⟩ = some (.slice a len cap) ∧ w'.cell? ⟨w4.heap.size, 0, none⟩ = some (.int .i64 m) ∧ w'.cell? ⟨w4.heap.size, 1, none⟩ = some (.int .i64 n) ∧ w'.cell? ⟨w4.heap.size, 2, none⟩ = some (.slice a4 xs.length c4)) (first | (refine KP _ _ (by assumption) ?_; assumption) | go_keep)
        ((first
          | (go_at_call 25; refine (ToLayout_any m n a len cap xs _ (HA.out _ B7.out) hl).mono ?_; rintro e w8 ⟨v8, rfl, in8, hb8⟩; have I8 := Lib.hid (I7.out.below (hb8.mono z6)); have J8 := Lib.hid in8)
          | (go_at_call 27; refine (EqLayout_any _ _ _ _ m n _ _ xs _ I8.out J8.out (Nat.le_trans z6 hb8.size) (Nat.le_refl _)).mono ?_; rintro e w9 ⟨rfl, hb9⟩)))
      have HB9 := bel_c (bel_c B7.out (Nat.le_refl _) hb8) (Nat.le_refl _) hb9
      go_wp2_with fail
      go_ret
      exact ⟨rfl, HB9⟩
  · have hl' : (1048576 : Int) < len := by omega
    go_enter Try.func8, Try.ntmps8
    go_wp2_with fail
    refine (SzL_no m n a len cap 1048576 _ (by omega) (by omega) hm hl').mono ?_
    rintro e w1 ⟨rfl, hb1⟩
    go_wp2_with fail
    go_ret
    exact ⟨rfl, bel_c (bel0 w _) (Nat.le_refl _) hb1⟩

end Go.Proofs.Ytakjgnkkeefgbaa
