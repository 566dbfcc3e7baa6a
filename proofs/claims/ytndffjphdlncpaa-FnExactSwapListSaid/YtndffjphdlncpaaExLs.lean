/- The walk of FnExactSwapList. -/
import Derived.Test.YtndffjphdlncpaaExIf
import Derived.Test.YtndffjphdlncpaaMExs
import Derived.Test.YtndffjphdlncpaaMInt
import Derived.Test.YtndffjphdlncpaaMBlk

namespace Go.Proofs.Ytndffjphdlncpaa
open Go.ChangeShapes Go.WideShapes Go.ChangeAt Go.RowKit

set_option maxHeartbeats 1000000 in
theorem SwapLaw_walk (a b : Int) (w : World) :
    Calls Try.prog 8 #[.int .i64 a, .int .i64 b] w fun e w' => e = .returned (.bool true) ∧ Below w.heap.size w w' := by
  have CS := fun w => SpecSwapList_any a b w
  have CI := fun w => ImplSwapList_any a b w
  generalize swapAns a b = ys at CS CI
  have hp := mkI_pos ys
  go_enter Try.func8, Try.ntmps8
  have B := Below.refl w.heap.size w
  go_wp2_with fail
  refine (CS _).mono ?_
  rintro e w1 ⟨v, rfl, J1, hb⟩
  obtain ⟨b1, d1, rfl⟩ := J1.form
  have B_ := bel_c B (Nat.le_refl _) hb
  have zw1 : w.heap.size ≤ w1.heap.size := by have := hb.size; first | exact this | simpa using this
  clear B
  have B := B_
  clear B_ hb
  go_wp2_with fail
  refine (CI _).mono ?_
  rintro e w2 ⟨v, rfl, J2, hb⟩
  obtain ⟨b2, d2, rfl⟩ := J2.form
  have J1_ := J1.below (hb.mono (by omega))
  have B_ := bel_c B (Nat.le_refl _) hb
  have zw2 : w1.heap.size ≤ w2.heap.size := by have := hb.size; first | exact this | simpa using this
  clear J1 B
  have J1 := J1_
  have B := B_
  clear J1_ B_ hb
  go_wp2_with fail
  refine (EqIntS_any _ _ _ _ _ _ ys _ J2 J1 (by omega) (by omega)).mono ?_
  rintro e w3 ⟨rfl, hb⟩
  have J1_ := J1.below (hb.mono (by omega))
  have J2_ := J2.below (hb.mono (by omega))
  have B_ := bel_c B (Nat.le_refl _) hb
  have zw3 : w2.heap.size ≤ w3.heap.size := by have := hb.size; first | exact this | simpa using this
  clear J1 J2 B
  have J1 := J1_
  have J2 := J2_
  have B := B_
  clear J1_ J2_ B_ hb
  go_wp2_with fail
  refine (MarkIOne _ _ _ ys _ J2).mono ?_
  rintro e w4 ⟨rfl, Im, hw⟩
  clear J2
  have J1_ := J1.within hw (by omega) (by omega)
  have B_ := bel_w B (Nat.le_refl _) hw (by omega)
  have zw4 : w3.heap.size ≤ w4.heap.size := by have := hw.size; first | exact this | simpa using this
  clear J1 B
  have J1 := J1_
  have B := B_
  clear J1_ B_ hw
  have J2 := Im
  clear Im
  go_wp2_with fail
  refine (HeldIOne _ _ _ ys _ J2).mono ?_
  rintro e w' ⟨rfl, hw'⟩
  have hw'' := hw'.symm
  subst hw''
  clear hw'
  go_wp2_with fail
  refine (CI _).mono ?_
  rintro e w5 ⟨v, rfl, J3, hb⟩
  obtain ⟨b3, d3, rfl⟩ := J3.form
  have J1_ := J1.below (hb.mono (by omega))
  have J2_ := J2.below (hb.mono (by omega))
  have B_ := bel_c B (Nat.le_refl _) hb
  have zw5 : w4.heap.size ≤ w5.heap.size := by have := hb.size; first | exact this | simpa using this
  clear J1 J2 B
  have J1 := J1_
  have J2 := J2_
  have B := B_
  clear J1_ J2_ B_ hb
  go_wp2_with fail
  refine (EqIntS_any _ _ _ _ _ _ ys _ J3 J1 (by omega) (by omega)).mono ?_
  rintro e w6 ⟨rfl, hb⟩
  have J1_ := J1.below (hb.mono (by omega))
  have J2_ := J2.below (hb.mono (by omega))
  have J3_ := J3.below (hb.mono (by omega))
  have B_ := bel_c B (Nat.le_refl _) hb
  have zw6 : w5.heap.size ≤ w6.heap.size := by have := hb.size; first | exact this | simpa using this
  clear J1 J2 J3 B
  have J1 := J1_
  have J2 := J2_
  have J3 := J3_
  have B := B_
  clear J1_ J2_ J3_ B_ hb
  clear J3
  go_wp2_with fail
  refine (HeldIOne _ _ _ ys _ J2).mono ?_
  rintro e w' ⟨rfl, hw'⟩
  have hw'' := hw'.symm
  subst hw''
  clear hw'
  go_wp2_with fail
  go_ret
  exact ⟨rfl, B⟩

end Go.Proofs.Ytndffjphdlncpaa
