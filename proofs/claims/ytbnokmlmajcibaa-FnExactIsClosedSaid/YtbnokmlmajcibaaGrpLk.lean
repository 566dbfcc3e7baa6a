/- The walk of FnExactIsClosed. -/
import Derived.Test.YtbnokmlmajcibaaM21
import Derived.Test.YtbnokmlmajcibaaM23
import Derived.Test.YtbnokmlmajcibaaM22

namespace Go.Proofs.Ytbnokmlmajcibaa
open Go.ChangeShapes Go.WideShapes Go.ChangeAt Go.RowKit

set_option maxHeartbeats 1000000 in
theorem ClosedLaw_walk (a : Option Addr) (len cap : Nat) (zs : List Int) (w : World) (x0 : ArgI w a len zs) :
    Calls Try.prog 8 #[.slice a len cap] w fun e w' => e = .returned (.bool true) ∧ Below w.heap.size w w' := by
  have hm : len ≤ 9223372036854775807 := by have := x0.2.1; unfold maxLen at this; omega
  have HA : Hid (∀ W, Below w.heap.size w W → ArgI W a len zs) := Lib.hid (fun W hb => x0.below hb)
  clear x0
  have CS := fun lo hi v w r h => SpecClosed_any lo hi v zs w r h
  have CI := fun lo hi v w r h => ImplClosed_any lo hi v zs w r h
  generalize closedB zs = ok at CS CI
  by_cases hl : len ≤ 1048576
  · have hl' : ¬ (1048576 : Int) < len := by omega
    cases ok
    all_goals
      go_enter Try.func8, Try.ntmps8
      have B := Below.refl w.heap.size w
      go_wp2_with fail
      refine (ToIntS_any a len cap zs _ (HA.out _ B) hl).mono ?_
      rintro e w1 ⟨v, rfl, I1, hb⟩
      obtain ⟨a1, c1, rfl⟩ := I1.form
      have B_ := bel_c B (Nat.le_refl _) hb
      have zw1 : w.heap.size ≤ w1.heap.size := by have := hb.size; first | exact this | simpa using this
      clear B
      have B := B_
      clear B_ hb
      go_wp2_with fail
      refine (CS _ _ _ _ I1.o (by omega)).mono ?_
      rintro e w2 ⟨rfl, hb⟩
      have I1_ := I1.below (hb.mono (by omega))
      have B_ := bel_c B (Nat.le_refl _) hb
      have zw2 : w1.heap.size ≤ w2.heap.size := by have := hb.size; first | exact this | simpa using this
      clear I1 B
      have I1 := I1_
      have B := B_
      clear I1_ B_ hb
      clear I1
      go_wp2_with fail
      refine (ToIntS_any a len cap zs _ (HA.out _ B) hl).mono ?_
      rintro e w3 ⟨v, rfl, I2, hb⟩
      obtain ⟨a2, c2, rfl⟩ := I2.form
      have B_ := bel_c B (Nat.le_refl _) hb
      have zw3 : w2.heap.size ≤ w3.heap.size := by have := hb.size; first | exact this | simpa using this
      clear B
      have B := B_
      clear B_ hb
      go_wp2_with fail
      refine (CI _ _ _ _ I2.o (by omega)).mono ?_
      rintro e w4 ⟨rfl, hb⟩
      have I2_ := I2.below (hb.mono (by omega))
      have B_ := bel_c B (Nat.le_refl _) hb
      have zw4 : w3.heap.size ≤ w4.heap.size := by have := hb.size; first | exact this | simpa using this
      clear I2 B
      have I2 := I2_
      have B := B_
      clear I2_ B_ hb
      go_wp2_with fail
      refine (ToIntS_any a len cap zs _ (HA.out _ B) hl).mono ?_
      rintro e w5 ⟨v, rfl, I3, hb⟩
      obtain ⟨a3, c3, rfl⟩ := I3.form
      have I2_ := I2.below (hb.mono (by omega))
      have B_ := bel_c B (Nat.le_refl _) hb
      have zw5 : w4.heap.size ≤ w5.heap.size := by have := hb.size; first | exact this | simpa using this
      clear I2 B
      have I2 := I2_
      have B := B_
      clear I2_ B_ hb
      go_wp2_with fail
      refine (EqIntS_any _ _ _ _ _ _ zs _ I2 I3 (by omega) (by omega)).mono ?_
      rintro e w6 ⟨rfl, hb⟩
      have I2_ := I2.below (hb.mono (by omega))
      have I3_ := I3.below (hb.mono (by omega))
      have B_ := bel_c B (Nat.le_refl _) hb
      have zw6 : w5.heap.size ≤ w6.heap.size := by have := hb.size; first | exact this | simpa using this
      clear I2 I3 B
      have I2 := I2_
      have I3 := I3_
      have B := B_
      clear I2_ I3_ B_ hb
      go_wp2_with fail
      go_ret
      exact ⟨rfl, B⟩
  · have hl' : (1048576 : Int) < len := by omega
    go_enter Try.func8, Try.ntmps8
    go_wp2_with fail
    go_ret
    exact ⟨rfl, Below.refl _ _⟩

end Go.Proofs.Ytbnokmlmajcibaa
