/- The walk of FnExactUndoList. -/
import Derived.Test.YtndffjphdlncpaaExIf
import Derived.Test.YtndffjphdlncpaaMExs
import Derived.Test.YtndffjphdlncpaaMExf
import Derived.Test.YtndffjphdlncpaaMInt

namespace Go.Proofs.Ytndffjphdlncpaa
open Go.ChangeShapes Go.WideShapes Go.ChangeAt Go.RowKit

set_option maxHeartbeats 2000000 in
theorem UndoLaw_walk (a : Option Addr) (len cap : Nat) (zs : List Int) (w : World) (x0 : ArgI w a len zs) :
    Calls Try.prog 9 #[.slice a len cap] w fun e w' => e = .returned (.bool true) ∧ Below w.heap.size w w' := by
  have hm : len ≤ 9223372036854775807 := by have := x0.2.1; unfold maxLen at this; omega
  have HA : Hid (∀ W, Below w.heap.size w W → ArgI W a len zs) := Lib.hid (fun W hb => x0.below hb)
  clear x0
  have CS := fun lo hi v w r h => SpecUndoList_any lo hi v zs w r h
  have CI := fun lo hi v w r h => ImplUndoList_any lo hi v zs w r h
  generalize undoAns zs = ys at CS CI
  have hq := mkI_pos zs
  have hp := mkI_pos ys
  by_cases hl : len ≤ 1048576
  · have hl' : ¬ (1048576 : Int) < len := by omega
    go_enter Try.func9, Try.ntmps9
    have B := Below.refl w.heap.size w
    go_wp2_with fail
    refine (ToIntS_any a len cap zs _ (HA.out _ B) hl).mono ?_
    rintro e w1 ⟨v, rfl, I1, hb⟩
    obtain ⟨a1, c1, rfl⟩ := I1.form
    have B_ := bel_c B (Nat.le_refl _) hb
    have zw1 : w.heap.size ≤ w1.heap.size := by have := hb.size; first | exact this | simpa using this
    clear B
    have B := B_
    clear B_ hb
    go_wp2_with fail
    refine (CS _ _ _ _ I1.o (by omega)).mono ?_
    rintro e w2 ⟨v, rfl, J1, hb⟩
    obtain ⟨b1, d1, rfl⟩ := J1.form
    have I1_ := I1.below (hb.mono (by omega))
    have B_ := bel_c B (Nat.le_refl _) hb
    have zw2 : w1.heap.size ≤ w2.heap.size := by have := hb.size; first | exact this | simpa using this
    clear I1 B
    have I1 := I1_
    have B := B_
    clear I1_ B_ hb
    clear I1
    go_wp2_with fail
    refine (ToIntS_any a len cap zs _ (HA.out _ B) hl).mono ?_
    rintro e w3 ⟨v, rfl, I2, hb⟩
    obtain ⟨a2, c2, rfl⟩ := I2.form
    have J1_ := J1.below (hb.mono (by omega))
    have B_ := bel_c B (Nat.le_refl _) hb
    have zw3 : w2.heap.size ≤ w3.heap.size := by have := hb.size; first | exact this | simpa using this
    clear J1 B
    have J1 := J1_
    have B := B_
    clear J1_ B_ hb
    go_wp2_with fail
    refine (CI _ _ _ _ I2.o (by omega)).mono ?_
    rintro e w4 ⟨v, rfl, J2, hb⟩
    obtain ⟨b2, d2, rfl⟩ := J2.form
    have J1_ := J1.below (hb.mono (by omega))
    have I2_ := I2.below (hb.mono (by omega))
    have B_ := bel_c B (Nat.le_refl _) hb
    have zw4 : w3.heap.size ≤ w4.heap.size := by have := hb.size; first | exact this | simpa using this
    clear J1 I2 B
    have J1 := J1_
    have I2 := I2_
    have B := B_
    clear J1_ I2_ B_ hb
    go_wp2_with fail
    refine (EqIntS_any _ _ _ _ _ _ ys _ J2 J1 (by omega) (by omega)).mono ?_
    rintro e w5 ⟨rfl, hb⟩
    have J1_ := J1.below (hb.mono (by omega))
    have I2_ := I2.below (hb.mono (by omega))
    have J2_ := J2.below (hb.mono (by omega))
    have B_ := bel_c B (Nat.le_refl _) hb
    have zw5 : w4.heap.size ≤ w5.heap.size := by have := hb.size; first | exact this | simpa using this
    clear J1 I2 J2 B
    have J1 := J1_
    have I2 := I2_
    have J2 := J2_
    have B := B_
    clear J1_ I2_ J2_ B_ hb
    go_wp2_with fail
    refine (ToIntS_any a len cap zs _ (HA.out _ B) hl).mono ?_
    rintro e w6 ⟨v, rfl, I3, hb⟩
    obtain ⟨a3, c3, rfl⟩ := I3.form
    have J1_ := J1.below (hb.mono (by omega))
    have I2_ := I2.below (hb.mono (by omega))
    have J2_ := J2.below (hb.mono (by omega))
    have B_ := bel_c B (Nat.le_refl _) hb
    have zw6 : w5.heap.size ≤ w6.heap.size := by have := hb.size; first | exact this | simpa using this
    clear J1 I2 J2 B
    have J1 := J1_
    have I2 := I2_
    have J2 := J2_
    have B := B_
    clear J1_ I2_ J2_ B_ hb
    go_wp2_with fail
    refine (EqIntS_any _ _ _ _ _ _ zs _ I2 I3 (by omega) (by omega)).mono ?_
    rintro e w7 ⟨rfl, hb⟩
    have J1_ := J1.below (hb.mono (by omega))
    have I2_ := I2.below (hb.mono (by omega))
    have J2_ := J2.below (hb.mono (by omega))
    have I3_ := I3.below (hb.mono (by omega))
    have B_ := bel_c B (Nat.le_refl _) hb
    have zw7 : w6.heap.size ≤ w7.heap.size := by have := hb.size; first | exact this | simpa using this
    clear J1 I2 J2 I3 B
    have J1 := J1_
    have I2 := I2_
    have J2 := J2_
    have I3 := I3_
    have B := B_
    clear J1_ I2_ J2_ I3_ B_ hb
    clear I3
    go_wp2_with fail
    refine (MarkIOne _ _ _ zs _ I2).mono ?_
    rintro e w8 ⟨rfl, Im, hw⟩
    clear I2
    have J1_ := J1.within hw (by omega) (by omega)
    have J2_ := J2.within hw (by omega) (by omega)
    have B_ := bel_w B (Nat.le_refl _) hw (by omega)
    have zw8 : w7.heap.size ≤ w8.heap.size := by have := hw.size; first | exact this | simpa using this
    clear J1 J2 B
    have J1 := J1_
    have J2 := J2_
    have B := B_
    clear J1_ J2_ B_ hw
    have I2 := Im
    clear Im
    clear I2
    go_wp2_with fail
    refine (EqIntS_any _ _ _ _ _ _ ys _ J2 J1 (by omega) (by omega)).mono ?_
    rintro e w9 ⟨rfl, hb⟩
    have J1_ := J1.below (hb.mono (by omega))
    have J2_ := J2.below (hb.mono (by omega))
    have B_ := bel_c B (Nat.le_refl _) hb
    have zw9 : w8.heap.size ≤ w9.heap.size := by have := hb.size; first | exact this | simpa using this
    clear J1 J2 B
    have J1 := J1_
    have J2 := J2_
    have B := B_
    clear J1_ J2_ B_ hb
    go_wp2_with fail
    refine (MarkIOne _ _ _ ys _ J2).mono ?_
    rintro e w10 ⟨rfl, Im, hw⟩
    clear J2
    have J1_ := J1.within hw (by omega) (by omega)
    have B_ := bel_w B (Nat.le_refl _) hw (by omega)
    have zw10 : w9.heap.size ≤ w10.heap.size := by have := hw.size; first | exact this | simpa using this
    clear J1 B
    have J1 := J1_
    have B := B_
    clear J1_ B_ hw
    have J2 := Im
    clear Im
    go_wp2_with fail
    refine (HeldIOne _ _ _ ys _ J2).mono ?_
    rintro e w' ⟨rfl, hw'⟩
    have hw'' := hw'.symm
    subst hw''
    clear hw'
    go_wp2_with fail
    refine (ToIntS_any a len cap zs _ (HA.out _ B) hl).mono ?_
    rintro e w11 ⟨v, rfl, I4, hb⟩
    obtain ⟨a4, c4, rfl⟩ := I4.form
    have J1_ := J1.below (hb.mono (by omega))
    have J2_ := J2.below (hb.mono (by omega))
    have B_ := bel_c B (Nat.le_refl _) hb
    have zw11 : w10.heap.size ≤ w11.heap.size := by have := hb.size; first | exact this | simpa using this
    clear J1 J2 B
    have J1 := J1_
    have J2 := J2_
    have B := B_
    clear J1_ J2_ B_ hb
    go_wp2_with fail
    refine (CI _ _ _ _ I4.o (by omega)).mono ?_
    rintro e w12 ⟨v, rfl, J3, hb⟩
    obtain ⟨b3, d3, rfl⟩ := J3.form
    have J1_ := J1.below (hb.mono (by omega))
    have J2_ := J2.below (hb.mono (by omega))
    have I4_ := I4.below (hb.mono (by omega))
    have B_ := bel_c B (Nat.le_refl _) hb
    have zw12 : w11.heap.size ≤ w12.heap.size := by have := hb.size; first | exact this | simpa using this
    clear J1 J2 I4 B
    have J1 := J1_
    have J2 := J2_
    have I4 := I4_
    have B := B_
    clear J1_ J2_ I4_ B_ hb
    clear I4
    go_wp2_with fail
    refine (EqIntS_any _ _ _ _ _ _ ys _ J3 J1 (by omega) (by omega)).mono ?_
    rintro e w13 ⟨rfl, hb⟩
    have J1_ := J1.below (hb.mono (by omega))
    have J2_ := J2.below (hb.mono (by omega))
    have J3_ := J3.below (hb.mono (by omega))
    have B_ := bel_c B (Nat.le_refl _) hb
    have zw13 : w12.heap.size ≤ w13.heap.size := by have := hb.size; first | exact this | simpa using this
    clear J1 J2 J3 B
    have J1 := J1_
    have J2 := J2_
    have J3 := J3_
    have B := B_
    clear J1_ J2_ J3_ B_ hb
    clear J3
    go_wp2_with fail
    refine (HeldIOne _ _ _ ys _ J2).mono ?_
    rintro e w' ⟨rfl, hw'⟩
    have hw'' := hw'.symm
    subst hw''
    clear hw'
    go_wp2_with fail
    go_ret
    exact ⟨rfl, B⟩
  · have hl' : (1048576 : Int) < len := by omega
    go_enter Try.func9, Try.ntmps9
    go_wp2_with fail
    go_ret
    exact ⟨rfl, Below.refl _ _⟩

end Go.Proofs.Ytndffjphdlncpaa
