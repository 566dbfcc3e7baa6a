/- The walk of FnExactMostChained. -/
import Derived.Test.YtlkiacgpiodkiaaM11
import Derived.Test.YtlkiacgpiodkiaaM21
import Derived.Test.YtlkiacgpiodkiaaSewSm
import Derived.Test.YtlkiacgpiodkiaaM02

set_option linter.unusedSimpArgs false
set_option linter.unusedVariables false
namespace Go.Proofs.Ytlkiacgpiodkiaa
open Go.ChangeShapes Go.WideShapes Go.ChangeAt Go.RowKit

set_option maxHeartbeats 1600000 in
set_option maxRecDepth 20000 in
theorem MostLaw_walk (a : Option Addr) (len cap : Nat) (js : List J3) (n : Int) (wn : (Lit.int .i64 n).wf = true) (w : World) (x0 : ArgJn w a len js) :
    Calls Try.prog 8 #[.slice a len cap, .int .i64 n] w fun e w' => e = .returned (.bool true) ∧ Below w.heap.size w w' := by
  have hm : len ≤ 9223372036854775807 := by have := x0.2.1; unfold maxLen at this; omega
  have HA : Hid (∀ W, Below w.heap.size w W → ArgJn W a len js) := Lib.hid (fun W hb => x0.below hb)
  clear x0
  have CS := Lib.hid (fun lo hi v w r h => SpecMost_any lo hi v js n wn w r h)
  have CI := Lib.hid (fun lo hi v w r h => ImplMost_any lo hi v js n wn w r h)
  generalize mostB js n = d at CS CI
  have hdd : (d != d) = false := by simp
  have hde : (d == d) = true := by simp
  by_cases hl : len ≤ 1048576
  · have hs : ¬ ((1048576 : Int) - (len : Int) < 0) := by omega
    have hl' : (len : Int) ≤ 1048576 := by omega
    go_enter Try.func8, Try.ntmps8
    go_wp2_with fail
    refine (SzJ_yes a len cap 1048576 _ (by omega) hl').mono ?_
    rintro e w' ⟨rfl, hw⟩
    have hw' := hw.symm
    subst hw'
    clear hw
    go_wp2_with fail
    refine (ToJnS_any a len cap js _ (HA.out _ (Below.refl _ _)) hl).mono ?_
    rintro e w1 ⟨v1, rfl, R1, hb1⟩
    obtain ⟨a1, c1, rfl⟩ := R1.form
    have HR1 := Lib.hid R1
    have HB1 := Lib.hid hb1
    clear R1 hb1
    go_wp2_with fail
    refine (CS.out _ _ _ _ HR1.out (Nat.le_refl _)).mono ?_
    rintro e w2 ⟨rfl, hb2⟩
    have HB2 := Lib.hid (bel_c HB1.out (Nat.le_refl _) hb2)
    clear hb2 HR1 HB1
    go_wp2_with fail
    refine (ToJnS_any a len cap js _ (HA.out _ HB2.out) hl).mono ?_
    rintro e w3 ⟨v3, rfl, R3, hb3⟩
    obtain ⟨a3, c3, rfl⟩ := R3.form
    have HR3 := Lib.hid R3
    have HB3 := Lib.hid (bel_c HB2.out (Nat.le_refl _) hb3)
    clear R3 hb3 HB2
    go_wp2_with fail
    refine (CI.out _ _ _ _ HR3.out (Nat.le_refl _)).mono ?_
    rintro e w4 ⟨rfl, hb4⟩
    have HR4 := Lib.hid (HR3.out.below hb4)
    have HB4 := Lib.hid (bel_c HB3.out (Nat.le_refl _) hb4)
    have hs4 := hb4.size
    clear hb4 HR3 HB3
    go_wp2_with fail
    refine (ToJnS_any a len cap js _ (HA.out _ HB4.out) hl).mono ?_
    rintro e w5 ⟨v5, rfl, R5, hb5⟩
    obtain ⟨a5, c5, rfl⟩ := R5.form
    have HR5 := Lib.hid R5
    have HR6 := Lib.hid (HR4.out.below (hb5.mono hs4))
    have HB5 := Lib.hid (bel_c HB4.out (Nat.le_refl _) hb5)
    have hs5 := hb5.size
    clear R5 hb5 HB4 HR4
    go_wp2_with fail
    refine (EqJnS_any _ _ _ _ _ _ js _ HR6.out HR5.out (by omega) (Nat.le_refl _)).mono ?_
    rintro e w6 ⟨rfl, hb6⟩
    have HB6 := Lib.hid (bel_c HB5.out (Nat.le_refl _) hb6)
    clear hb6 HB5
    go_wp2_with fail
    go_ret
    exact ⟨rfl, HB6.out⟩
  · have hl' : (1048576 : Int) < len := by omega
    go_enter Try.func8, Try.ntmps8
    go_wp2_with fail
    refine (SzJ_no a len cap 1048576 _ (by omega) (by omega) hm hl').mono ?_
    rintro e w' ⟨rfl, hw⟩
    have hw' := hw.symm
    subst hw'
    clear hw
    go_wp2_with fail
    go_ret
    exact ⟨rfl, Below.refl _ _⟩

end Go.Proofs.Ytlkiacgpiodkiaa
