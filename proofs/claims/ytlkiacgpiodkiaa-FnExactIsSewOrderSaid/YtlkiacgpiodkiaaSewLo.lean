/- The walk of FnExactIsSewOrder. -/
import Derived.Test.YtlkiacgpiodkiaaM16
import Derived.Test.YtlkiacgpiodkiaaM11
import Derived.Test.YtlkiacgpiodkiaaM02
import Derived.Test.YtlkiacgpiodkiaaM17
import Derived.Test.YtlkiacgpiodkiaaM18

set_option linter.unusedSimpArgs false
set_option linter.unusedVariables false
namespace Go.Proofs.Ytlkiacgpiodkiaa
open Go.ChangeShapes Go.WideShapes Go.ChangeAt Go.RowKit

set_option maxHeartbeats 3200000 in
set_option maxRecDepth 20000 in
theorem OrderLaw12_walk (a : Option Addr) (len cap : Nat) (js : List J3) (n : Int) (wn : (Lit.int .i64 n).wf = true) (ao : Option Addr) (leno capo : Nat) (os : List Int) (w : World) (x0 : ArgJn w a len js) (x2 : ArgI w ao leno os) :
    Calls Try.prog 5 #[.slice a len cap, .int .i64 n, .slice ao leno capo] w fun e w' => e = .returned (.bool true) ∧ Below w.heap.size w w' := by
  have hm : len ≤ 9223372036854775807 := by have := x0.2.1; unfold maxLen at this; omega
  have HA : Hid (∀ W, Below w.heap.size w W → ArgJn W a len js) := Lib.hid (fun W hb => x0.below hb)
  have HX : Hid (∀ W, Below w.heap.size w W → ArgI W ao leno os) := Lib.hid (fun W hb => x2.below hb)
  clear x0 x2
  have CS := Lib.hid (fun lo hi lo2 hi2 v vi w r ri h h2 => SpecOrder_any lo hi lo2 hi2 v vi js os n wn w r ri h h2)
  have CI := Lib.hid (fun lo hi lo2 hi2 v vi w r ri h h2 => ImplOrder_any lo hi lo2 hi2 v vi js os n wn w r ri h h2)
  generalize ordB js n os = d at CS CI
  have hdd : (d != d) = false := by simp
  have hde : (d == d) = true := by simp
  by_cases hlo : leno ≤ 1048576
  · have hso : ¬ ((1048576 : Int) < (leno : Int)) := by omega
    by_cases hl : len ≤ 1048576
    · have hs : ¬ ((1048576 : Int) - (len : Int) < 0) := by omega
      have hl' : (len : Int) ≤ 1048576 := by omega
      go_enter Try.func5, Try.ntmps5
      go_wp2_with fail
      refine (SzJ_yes a len cap 1048576 _ (by omega) hl').mono ?_
      rintro e w' ⟨rfl, hw⟩
      have hw' := hw.symm
      subst hw'
      clear hw
      have B := Lib.hid (Below.refl w.heap.size w)
      have hsz0 := Nat.le_refl w.heap.size
      go_wp2_with fail
      refine (ToJnS_any a len cap js _ (HA.out _ B.out) hl).mono ?_
      rintro e w1 ⟨v, rfl, r, hb⟩
      obtain ⟨aR1, cR1, rfl⟩ := r.form
      have R1 := Lib.hid r
      clear r
      have B_ := Lib.hid (bel_c B.out (Nat.le_refl _) hb)
      have hsz1 := hb.size
      clear B hb
      have B := B_
      clear B_
      go_wp2_with fail
      refine (ToIntS_any ao leno capo os _ (HX.out _ B.out) hlo).mono ?_
      rintro e w2 ⟨v, rfl, r, hb⟩
      obtain ⟨aI1, cI1, rfl⟩ := r.form
      have I1 := Lib.hid r
      clear r
      have R1_ := Lib.hid (R1.out.below (hb.mono (by omega)))
      have B_ := Lib.hid (bel_c B.out (Nat.le_refl _) hb)
      have hsz2 := hb.size
      clear R1 B hb
      have R1 := R1_
      have B := B_
      clear R1_ B_
      go_wp2_with fail
      refine (CS.out _ _ _ _ _ _ _ R1.out I1.out (by omega) (by omega)).mono ?_
      rintro e w3 ⟨rfl, hb⟩
      have R1_ := Lib.hid (R1.out.below (hb.mono (by omega)))
      have I1_ := Lib.hid (I1.out.below (hb.mono (by omega)))
      have B_ := Lib.hid (bel_c B.out (Nat.le_refl _) hb)
      have hsz3 := hb.size
      clear R1 I1 B hb
      have R1 := R1_
      have I1 := I1_
      have B := B_
      clear R1_ I1_ B_
      clear R1 I1
      go_wp2_with fail
      refine (ToJnS_any a len cap js _ (HA.out _ B.out) hl).mono ?_
      rintro e w4 ⟨v, rfl, r, hb⟩
      obtain ⟨aR2, cR2, rfl⟩ := r.form
      have R2 := Lib.hid r
      clear r
      have B_ := Lib.hid (bel_c B.out (Nat.le_refl _) hb)
      have hsz4 := hb.size
      clear B hb
      have B := B_
      clear B_
      go_wp2_with fail
      refine (ToIntS_any ao leno capo os _ (HX.out _ B.out) hlo).mono ?_
      rintro e w5 ⟨v, rfl, r, hb⟩
      obtain ⟨aI2, cI2, rfl⟩ := r.form
      have I2 := Lib.hid r
      clear r
      have R2_ := Lib.hid (R2.out.below (hb.mono (by omega)))
      have B_ := Lib.hid (bel_c B.out (Nat.le_refl _) hb)
      have hsz5 := hb.size
      clear R2 B hb
      have R2 := R2_
      have B := B_
      clear R2_ B_
      go_wp2_with fail
      refine (CI.out _ _ _ _ _ _ _ R2.out I2.out (by omega) (by omega)).mono ?_
      rintro e w6 ⟨rfl, hb⟩
      have R2_ := Lib.hid (R2.out.below (hb.mono (by omega)))
      have I2_ := Lib.hid (I2.out.below (hb.mono (by omega)))
      have B_ := Lib.hid (bel_c B.out (Nat.le_refl _) hb)
      have hsz6 := hb.size
      clear R2 I2 B hb
      have R2 := R2_
      have I2 := I2_
      have B := B_
      clear R2_ I2_ B_
      go_wp2_with fail
      refine (ToJnS_any a len cap js _ (HA.out _ B.out) hl).mono ?_
      rintro e w7 ⟨v, rfl, r, hb⟩
      obtain ⟨aR3, cR3, rfl⟩ := r.form
      have R3 := Lib.hid r
      clear r
      have R2_ := Lib.hid (R2.out.below (hb.mono (by omega)))
      have I2_ := Lib.hid (I2.out.below (hb.mono (by omega)))
      have B_ := Lib.hid (bel_c B.out (Nat.le_refl _) hb)
      have hsz7 := hb.size
      clear R2 I2 B hb
      have R2 := R2_
      have I2 := I2_
      have B := B_
      clear R2_ I2_ B_
      go_wp2_with fail
      refine (EqJnS_any _ _ _ _ _ _ js _ R2.out R3.out (by omega) (by omega)).mono ?_
      rintro e w8 ⟨rfl, hb⟩
      have R2_ := Lib.hid (R2.out.below (hb.mono (by omega)))
      have I2_ := Lib.hid (I2.out.below (hb.mono (by omega)))
      have R3_ := Lib.hid (R3.out.below (hb.mono (by omega)))
      have B_ := Lib.hid (bel_c B.out (Nat.le_refl _) hb)
      have hsz8 := hb.size
      clear R2 I2 R3 B hb
      have R2 := R2_
      have I2 := I2_
      have R3 := R3_
      have B := B_
      clear R2_ I2_ R3_ B_
      clear R3 R2
      go_wp2_with fail
      refine (ToIntS_any ao leno capo os _ (HX.out _ B.out) hlo).mono ?_
      rintro e w9 ⟨v, rfl, r, hb⟩
      obtain ⟨aI3, cI3, rfl⟩ := r.form
      have I3 := Lib.hid r
      clear r
      have I2_ := Lib.hid (I2.out.below (hb.mono (by omega)))
      have B_ := Lib.hid (bel_c B.out (Nat.le_refl _) hb)
      have hsz9 := hb.size
      clear I2 B hb
      have I2 := I2_
      have B := B_
      clear I2_ B_
      go_wp2_with fail
      refine (EqIntS_any _ _ _ _ _ _ os _ I2.out I3.out (by omega) (by omega)).mono ?_
      rintro e w10 ⟨rfl, hb⟩
      have I2_ := Lib.hid (I2.out.below (hb.mono (by omega)))
      have I3_ := Lib.hid (I3.out.below (hb.mono (by omega)))
      have B_ := Lib.hid (bel_c B.out (Nat.le_refl _) hb)
      have hsz10 := hb.size
      clear I2 I3 B hb
      have I2 := I2_
      have I3 := I3_
      have B := B_
      clear I2_ I3_ B_
      go_wp2_with fail
      go_ret
      exact ⟨rfl, B.out⟩
    · have hl' : (1048576 : Int) < len := by omega
      go_enter Try.func5, Try.ntmps5
      go_wp2_with fail
      refine (SzJ_no a len cap 1048576 _ (by omega) (by omega) hm hl').mono ?_
      rintro e w' ⟨rfl, hw⟩
      have hw' := hw.symm
      subst hw'
      clear hw
      go_wp2_with fail
      go_ret
      exact ⟨rfl, Below.refl _ _⟩
  · have hso : (1048576 : Int) < (leno : Int) := by omega
    go_enter Try.func5, Try.ntmps5
    go_wp2_with fail
    go_ret
    exact ⟨rfl, Below.refl _ _⟩

end Go.Proofs.Ytlkiacgpiodkiaa
