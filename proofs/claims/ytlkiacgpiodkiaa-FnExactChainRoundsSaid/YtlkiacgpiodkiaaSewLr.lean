/- The walk of FnExactChainRounds. -/
import Derived.Test.YtlkiacgpiodkiaaM20
import Derived.Test.YtlkiacgpiodkiaaM21
import Derived.Test.YtlkiacgpiodkiaaM11
import Derived.Test.YtlkiacgpiodkiaaM02
import Derived.Test.YtlkiacgpiodkiaaM17

set_option linter.unusedSimpArgs false
set_option linter.unusedVariables false
namespace Go.Proofs.Ytlkiacgpiodkiaa
open Go.ChangeShapes Go.WideShapes Go.ChangeAt Go.RowKit

set_option maxHeartbeats 3200000 in
set_option maxRecDepth 20000 in
theorem RoundsLaw_walk (a : Option Addr) (len cap : Nat) (js : List J3) (n : Int) (wn : (Lit.int .i64 n).wf = true) (w : World) (x0 : ArgJn w a len js) :
    Calls Try.prog 7 #[.slice a len cap, .int .i64 n] w fun e w' => e = .returned (.bool true) ∧ Below w.heap.size w w' := by
  have hm : len ≤ 9223372036854775807 := by have := x0.2.1; unfold maxLen at this; omega
  have HA : Hid (∀ W, Below w.heap.size w W → ArgJn W a len js) := Lib.hid (fun W hb => x0.below hb)
  clear x0
  have CS := Lib.hid (fun lo hi v w r h => SpecRounds_any lo hi v js n wn w r h)
  have CI := Lib.hid (fun lo hi v w r h => ImplRounds_any lo hi v js n wn w r h)
  have HK := Lib.hid (offI_rounds js n)
  generalize roundsB js n = zs at CS CI HK
  have hp := mkII_pos zs
  have hq := mkJ_pos js
  by_cases hl : len ≤ 1048576
  · have hs : ¬ ((1048576 : Int) - (len : Int) < 0) := by omega
    have hl' : (len : Int) ≤ 1048576 := by omega
    go_enter Try.func7, Try.ntmps7
    go_wp2_with fail
    refine (SzJ_yes a len cap 1048576 _ (by omega) hl').mono ?_
    rintro e w' ⟨rfl, hw⟩
    have hw' := hw.symm
    subst hw'
    clear hw
    have B := Lib.hid (Below.refl w.heap.size w)
    have hsz0 := Nat.le_refl w.heap.size
    go_wp2_with fail
    refine (ToJnS_any a len cap js _ (HA.out _ B.out) hl).mono ?_
    rintro e w1 ⟨v, rfl, r, hb⟩
    obtain ⟨aR1, cR1, rfl⟩ := r.form
    have R1 := Lib.hid r
    clear r
    have B_ := Lib.hid (bel_c B.out (Nat.le_refl _) hb)
    have hsz1 := hb.size
    clear B hb
    have B := B_
    clear B_
    go_wp2_with fail
    refine (CS.out _ _ _ _ R1.out (by omega)).mono ?_
    rintro e w2 ⟨v, rfl, r, hb⟩
    obtain ⟨aI1, cI1, rfl⟩ := r.form
    have I1 := Lib.hid r
    clear r
    have R1_ := Lib.hid (R1.out.below (hb.mono (by omega)))
    have B_ := Lib.hid (bel_c B.out (Nat.le_refl _) hb)
    have hsz2 := hb.size
    clear R1 B hb
    have R1 := R1_
    have B := B_
    clear R1_ B_
    clear R1
    go_wp2_with fail
    refine (ToJnS_any a len cap js _ (HA.out _ B.out) hl).mono ?_
    rintro e w3 ⟨v, rfl, r, hb⟩
    obtain ⟨aR2, cR2, rfl⟩ := r.form
    have R2 := Lib.hid r
    clear r
    have I1_ := Lib.hid (I1.out.below (hb.mono (by omega)) (by omega))
    have B_ := Lib.hid (bel_c B.out (Nat.le_refl _) hb)
    have hsz3 := hb.size
    clear I1 B hb
    have I1 := I1_
    have B := B_
    clear I1_ B_
    go_wp2_with fail
    refine (CI.out _ _ _ _ R2.out (by omega)).mono ?_
    rintro e w4 ⟨v, rfl, r, hb⟩
    obtain ⟨aI2, cI2, rfl⟩ := r.form
    have I2 := Lib.hid r
    clear r
    have I1_ := Lib.hid (I1.out.below (hb.mono (by omega)) (by omega))
    have R2_ := Lib.hid (R2.out.below (hb.mono (by omega)))
    have B_ := Lib.hid (bel_c B.out (Nat.le_refl _) hb)
    have hsz4 := hb.size
    clear I1 R2 B hb
    have I1 := I1_
    have R2 := R2_
    have B := B_
    clear I1_ R2_ B_
    go_wp2_with fail
    refine (EqIntSS_any _ _ _ _ _ _ zs _ I2.out I1.out (by omega) (by omega)).mono ?_
    rintro e w5 ⟨rfl, hb⟩
    have I1_ := Lib.hid (I1.out.below (hb.mono (by omega)) (by omega))
    have R2_ := Lib.hid (R2.out.below (hb.mono (by omega)))
    have I2_ := Lib.hid (I2.out.below (hb.mono (by omega)) (by omega))
    have B_ := Lib.hid (bel_c B.out (Nat.le_refl _) hb)
    have hsz5 := hb.size
    clear I1 R2 I2 B hb
    have I1 := I1_
    have R2 := R2_
    have I2 := I2_
    have B := B_
    clear I1_ R2_ I2_ B_
    go_wp2_with fail
    refine (ToJnS_any a len cap js _ (HA.out _ B.out) hl).mono ?_
    rintro e w6 ⟨v, rfl, r, hb⟩
    obtain ⟨aR3, cR3, rfl⟩ := r.form
    have R3 := Lib.hid r
    clear r
    have I1_ := Lib.hid (I1.out.below (hb.mono (by omega)) (by omega))
    have R2_ := Lib.hid (R2.out.below (hb.mono (by omega)))
    have I2_ := Lib.hid (I2.out.below (hb.mono (by omega)) (by omega))
    have B_ := Lib.hid (bel_c B.out (Nat.le_refl _) hb)
    have hsz6 := hb.size
    clear I1 R2 I2 B hb
    have I1 := I1_
    have R2 := R2_
    have I2 := I2_
    have B := B_
    clear I1_ R2_ I2_ B_
    go_wp2_with fail
    refine (EqJnS_any _ _ _ _ _ _ js _ R2.out R3.out (by omega) (by omega)).mono ?_
    rintro e w7 ⟨rfl, hb⟩
    have I1_ := Lib.hid (I1.out.below (hb.mono (by omega)) (by omega))
    have R2_ := Lib.hid (R2.out.below (hb.mono (by omega)))
    have I2_ := Lib.hid (I2.out.below (hb.mono (by omega)) (by omega))
    have R3_ := Lib.hid (R3.out.below (hb.mono (by omega)))
    have B_ := Lib.hid (bel_c B.out (Nat.le_refl _) hb)
    have hsz7 := hb.size
    clear I1 R2 I2 R3 B hb
    have I1 := I1_
    have R2 := R2_
    have I2 := I2_
    have R3 := R3_
    have B := B_
    clear I1_ R2_ I2_ R3_ B_
    clear R3
    go_wp2_with fail
    refine (MarkJOne _ _ _ js _ R2.out).mono ?_
    rintro e w8 ⟨rfl, r, hw⟩
    clear r R2
    have I1_ := Lib.hid (I1.out.within hw (by omega) (by omega))
    have I2_ := Lib.hid (I2.out.within hw (by omega) (by omega))
    have B_ := Lib.hid (B.out.trans ((hw.below (by omega)).mono (by omega)))
    have hsz8 := hw.size
    clear I1 I2 B hw
    have I1 := I1_
    have I2 := I2_
    have B := B_
    clear I1_ I2_ B_
    go_wp2_with fail
    refine (EqIntSS_any _ _ _ _ _ _ zs _ I2.out I1.out (by omega) (by omega)).mono ?_
    rintro e w9 ⟨rfl, hb⟩
    have I1_ := Lib.hid (I1.out.below (hb.mono (by omega)) (by omega))
    have I2_ := Lib.hid (I2.out.below (hb.mono (by omega)) (by omega))
    have B_ := Lib.hid (bel_c B.out (Nat.le_refl _) hb)
    have hsz9 := hb.size
    clear I1 I2 B hb
    have I1 := I1_
    have I2 := I2_
    have B := B_
    clear I1_ I2_ B_
    go_wp2_with fail
    refine (MarkIIOne _ _ _ zs _ I2.out (by omega) HK.out).mono ?_
    rintro e w10 ⟨rfl, r, hw⟩
    have I2_ := Lib.hid r
    clear r
    have I1_ := Lib.hid (I1.out.within hw (by omega) (by omega))
    have B_ := Lib.hid (B.out.trans ((hw.below (by omega)).mono (by omega)))
    have hsz10 := hw.size
    clear I1 B hw
    have I1 := I1_
    have B := B_
    clear I1_ B_
    clear I2
    have I2 := I2_
    clear I2_
    go_wp2_with fail
    refine (HeldIIOne _ _ _ zs _ I2.out HK.out).mono ?_
    rintro e w' ⟨rfl, hw⟩
    have hw' := hw.symm
    subst hw'
    clear hw
    go_wp2_with fail
    refine (ToJnS_any a len cap js _ (HA.out _ B.out) hl).mono ?_
    rintro e w11 ⟨v, rfl, r, hb⟩
    obtain ⟨aR4, cR4, rfl⟩ := r.form
    have R4 := Lib.hid r
    clear r
    have I1_ := Lib.hid (I1.out.below (hb.mono (by omega)) (by omega))
    have I2_ := Lib.hid (I2.out.below (hb.mono (by omega)) (by omega))
    have B_ := Lib.hid (bel_c B.out (Nat.le_refl _) hb)
    have hsz11 := hb.size
    clear I1 I2 B hb
    have I1 := I1_
    have I2 := I2_
    have B := B_
    clear I1_ I2_ B_
    go_wp2_with fail
    refine (CI.out _ _ _ _ R4.out (by omega)).mono ?_
    rintro e w12 ⟨v, rfl, r, hb⟩
    obtain ⟨aI3, cI3, rfl⟩ := r.form
    have I3 := Lib.hid r
    clear r
    have I1_ := Lib.hid (I1.out.below (hb.mono (by omega)) (by omega))
    have I2_ := Lib.hid (I2.out.below (hb.mono (by omega)) (by omega))
    have R4_ := Lib.hid (R4.out.below (hb.mono (by omega)))
    have B_ := Lib.hid (bel_c B.out (Nat.le_refl _) hb)
    have hsz12 := hb.size
    clear I1 I2 R4 B hb
    have I1 := I1_
    have I2 := I2_
    have R4 := R4_
    have B := B_
    clear I1_ I2_ R4_ B_
    clear R4
    go_wp2_with fail
    refine (EqIntSS_any _ _ _ _ _ _ zs _ I3.out I1.out (by omega) (by omega)).mono ?_
    rintro e w13 ⟨rfl, hb⟩
    have I1_ := Lib.hid (I1.out.below (hb.mono (by omega)) (by omega))
    have I2_ := Lib.hid (I2.out.below (hb.mono (by omega)) (by omega))
    have I3_ := Lib.hid (I3.out.below (hb.mono (by omega)) (by omega))
    have B_ := Lib.hid (bel_c B.out (Nat.le_refl _) hb)
    have hsz13 := hb.size
    clear I1 I2 I3 B hb
    have I1 := I1_
    have I2 := I2_
    have I3 := I3_
    have B := B_
    clear I1_ I2_ I3_ B_
    go_wp2_with fail
    refine (HeldIIOne _ _ _ zs _ I2.out HK.out).mono ?_
    rintro e w' ⟨rfl, hw⟩
    have hw' := hw.symm
    subst hw'
    clear hw
    go_wp2_with fail
    go_ret
    exact ⟨rfl, B.out⟩
  · have hl' : (1048576 : Int) < len := by omega
    go_enter Try.func7, Try.ntmps7
    go_wp2_with fail
    refine (SzJ_no a len cap 1048576 _ (by omega) (by omega) hm hl').mono ?_
    rintro e w' ⟨rfl, hw⟩
    have hw' := hw.symm
    subst hw'
    clear hw
    go_wp2_with fail
    go_ret
    exact ⟨rfl, Below.refl _ _⟩

end Go.Proofs.Ytlkiacgpiodkiaa
