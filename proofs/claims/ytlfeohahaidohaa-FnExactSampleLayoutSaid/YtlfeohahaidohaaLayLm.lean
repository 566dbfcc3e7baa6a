/- The walk of FnExactSampleLayout. -/
import Derived.Test.YtlfeohahaidohaaLaySm
import Derived.Test.YtlfeohahaidohaaLayN3
namespace Go.Proofs.Ytlfeohahaidohaa
open Go.ChangeShapes Go.WideShapes Go.ChangeAt Go.RowKit

set_option maxHeartbeats 1000000 in
theorem SampleLaw_walk (w : World) :
    Calls Try.prog 9 #[] w fun e w' => e = .returned (.bool true) ∧ Below w.heap.size w w' := by
  have hq := mkP_pos smpL
  have hgen : ∃ xs : List P5, xs = smpL := ⟨_, rfl⟩
  obtain ⟨xs, hxs⟩ := hgen
  have CS : ∀ w, Calls Try.prog 28 #[] w (FreshL 3 3 xs w) := by rw [hxs]; exact SpecSampleLayout_any
  have CI : ∀ w, Calls Try.prog 17 #[] w (FreshL 3 3 xs w) := by rw [hxs]; exact ImplSampleLayout_any
  rw [← hxs] at hq
  clear hxs
  go_enter Try.func9, Try.ntmps9
  go_wp2_with fail
  refine (CS _).mono ?_
  rintro e w1 ⟨v1, rfl, in1, hb1⟩
  obtain ⟨a1, c1, rfl⟩ := in1.form
  have N1 := bel0 w1 (.cells #[.int .i64 3, .int .i64 3, .slice a1 xs.length c1] 26)
  have P1 := Tri.new w1 (.int .i64 3) (.int .i64 3) (.slice a1 xs.length c1) 26
  have I1 := in1.below N1
  have B1 := bel_n hb1 (Nat.le_refl _) (.cells #[.int .i64 3, .int .i64 3, .slice a1 xs.length c1] 26)
  have z1 := hb1.size
  clear in1 hb1 N1
  go_wp2_with fail
  refine (CI _).mono ?_
  rintro e w2 ⟨v2, rfl, in2, hb2⟩
  obtain ⟨a2, c2, rfl⟩ := in2.form
  have N2 := bel0 w2 (.cells #[.int .i64 3, .int .i64 3, .slice a2 xs.length c2] 26)
  have Q2 := Tri.new w2 (.int .i64 3) (.int .i64 3) (.slice a2 xs.length c2) 26
  have J2 : PatIn (w1.heap.size + 1) w2.heap.size (w2.alloc (.cells #[.int .i64 3, .int .i64 3, .slice a2 xs.length c2] 26)) (.slice a2 xs.length c2) xs := (by simpa using in2 : PatIn (w1.heap.size + 1) w2.heap.size w2 (.slice a2 xs.length c2) xs).below N2
  have z2 : w1.heap.size + 1 ≤ w2.heap.size := by have := hb2.size; simpa using this
  have P2 := (P1.keep hb2).keep N2
  have I2 := (I1.below (hb2.mono (by simp))).below (N2.mono (by omega))
  have B2 := bel_n (bel_c B1 (Nat.le_refl _) hb2) (Nat.le_refl _) (.cells #[.int .i64 3, .int .i64 3, .slice a2 xs.length c2] 26)
  clear in2 hb2 N2 P1 I1 B1
  obtain ⟨p0, p1, p2⟩ := id P2
  go_wp2_with fail
  clear p0 p1 p2
  refine (EqLayout_any _ _ _ _ 3 3 _ _ xs _ J2 I2 (by simp) (by simp; omega)).mono ?_
  rintro e w3 ⟨rfl, hb3⟩
  have z3 : w2.heap.size + 1 ≤ w3.heap.size := by have := hb3.size; simpa using this
  have P3 := P2.keep hb3
  have Q3 := Q2.keep hb3
  have I3 := I2.below (hb3.mono (by simp; omega))
  have J3 := J2.below (hb3.mono (by simp))
  have B3 := bel_c B2 (Nat.le_refl _) hb3
  clear hb3 P2 Q2 I2 J2 B2
  obtain ⟨q0, q1, q2⟩ := id Q3
  go_wp2_with fail
  clear q0 q1 q2
  refine (MarkLayout_any _ _ 3 3 _ xs _ J3 (by omega)).mono ?_
  rintro e w4 ⟨rfl, J4, hw4⟩
  have z4 : w2.heap.size + 1 ≤ w4.heap.size := Nat.le_trans z3 hw4.size
  have P4 := P3.within hw4 (.inl (by omega))
  have Q4 := Q3.within hw4 (.inr (Nat.le_refl _))
  have I4 := I3.within hw4 (.inl (by omega)) (by omega)
  have B4 := bel_wL B3 (Nat.le_refl _) hw4 (by omega)
  clear hw4 P3 Q3 I3 J3 B3
  obtain ⟨q0, q1, q2⟩ := id Q4
  go_wp2_with fail
  clear q0 q1 q2
  refine (HeldLayout_any _ _ 3 3 _ xs _ J4 (by omega)).mono ?_
  rintro e w5 ⟨rfl, hb5⟩
  have z5 : w2.heap.size + 1 ≤ w5.heap.size := Nat.le_trans z4 hb5.size
  have P5 := P4.keep hb5
  have Q5 := Q4.keep hb5
  have I5 := I4.below (hb5.mono (by omega))
  have J5 := J4.below (hb5.mono (by omega))
  have B5 := bel_c B4 (Nat.le_refl _) hb5
  clear hb5 P4 Q4 I4 J4 B4
  go_wp2_with fail
  refine (CI _).mono ?_
  rintro e w6 ⟨v6, rfl, in6, hb6⟩
  obtain ⟨a6, c6, rfl⟩ := in6.form
  have N6 := bel0 w6 (.cells #[.int .i64 3, .int .i64 3, .slice a6 xs.length c6] 26)
  have z6 : w5.heap.size ≤ w6.heap.size := hb6.size
  have K6 := in6.below N6
  have P6 := (P5.keep hb6).keep N6
  have Q6 := (Q5.keep hb6).keep N6
  have I6 := (I5.below (hb6.mono (by omega))).below (N6.mono (by omega))
  have J6 := (J5.below (hb6.mono (by omega))).below (N6.mono (by omega))
  have B6 := bel_n (bel_c B5 (Nat.le_refl _) hb6) (Nat.le_refl _) (.cells #[.int .i64 3, .int .i64 3, .slice a6 xs.length c6] 26)
  clear in6 hb6 N6 P5 Q5 I5 J5 B5
  obtain ⟨p0, p1, p2⟩ := id P6
  go_wp2_with fail
  clear p0 p1 p2
  refine (EqLayout_any _ _ _ _ 3 3 _ _ xs _ K6 I6 (by simp) (by simp; omega)).mono ?_
  rintro e w7 ⟨rfl, hb7⟩
  have Q7 := Q6.keep hb7
  have J7 := J6.below (hb7.mono (by simp; omega))
  have B7 := bel_c B6 (Nat.le_refl _) hb7
  have z7 : w6.heap.size + 1 ≤ w7.heap.size := by have := hb7.size; simpa using this
  clear hb7 P6 Q6 I6 J6 K6 B6
  obtain ⟨q0, q1, q2⟩ := id Q7
  go_wp2_with fail
  clear q0 q1 q2
  refine (HeldLayout_any _ _ 3 3 _ xs _ J7 (by omega)).mono ?_
  rintro e w8 ⟨rfl, hb8⟩
  have B8 := bel_c B7 (Nat.le_refl _) hb8
  clear hb8 Q7 J7 B7
  go_wp2_with fail
  go_ret
  exact ⟨rfl, B8⟩

end Go.Proofs.Ytlfeohahaidohaa
