/- The walk of FnExactExchangeCell. -/
import Derived.Test.YtndffjphdlncpaaExIf
import Derived.Test.YtndffjphdlncpaaMExs
import Derived.Test.YtndffjphdlncpaaMExf
import Derived.Test.YtndffjphdlncpaaMInt
import Derived.Test.YtndffjphdlncpaaMCel
import Derived.Test.YtndffjphdlncpaaMBlm

namespace Go.Proofs.Ytndffjphdlncpaa
open Go.ChangeShapes Go.WideShapes Go.ChangeAt Go.RowKit

set_option maxHeartbeats 2000000 in
theorem ExCellLaw_walk (s a b : Int) (al : Option Addr) (len1 cap1 : Nat) (zs : List Int) (w : World) (x0 : ArgI w al len1 zs) :
    Calls Try.prog 6 #[.agg #[.int .i64 s, .int .i64 a, .int .i64 b], .slice al len1 cap1] w fun e w' => e = .returned (.bool true) ∧ Below w.heap.size w w' := by
  have hm : len1 ≤ 9223372036854775807 := by have := x0.2.1; unfold maxLen at this; omega
  have HAI : Hid (∀ W, Below w.heap.size w W → ArgI W al len1 zs) := Lib.hid (fun W hb => x0.below hb)
  clear x0
  have CS := fun lo hi v w r h => SpecExchangeCell_any lo hi s a b v zs w r h
  have CI := fun lo hi v w r h => ImplExchangeCell_any lo hi s a b v zs w r h
  generalize exZ zs ⟨s, a, b⟩ = z at CS CI
  by_cases hll : len1 ≤ 1048576
  · have hl' : ¬ (1048576 : Int) < len1 := by omega
    go_enter Try.func6, Try.ntmps6
    have A0 := Three.new w ⟨s, a, b⟩ 44
    have B := bel0 w (.cells #[.int .i64 s, .int .i64 a, .int .i64 b] 44)
    obtain ⟨c_A00, c_A01, c_A02⟩ := id A0
    go_wp2_with fail
    clear c_A00 c_A01 c_A02
    refine (ToCell_any _ _ _ _).mono ?_
    rintro e w1 ⟨rfl, hb⟩
    have A0_ := A0.keep hb
    have B_ := bel_c B (Nat.le_refl _) hb
    have zw1 : w.heap.size + 1 ≤ w1.heap.size := by have := hb.size; first | exact this | simpa using this
    clear A0 B
    have A0 := A0_
    have B := B_
    clear A0_ B_ hb
    go_wp2_with fail
    refine (ToIntS_any al len1 cap1 zs _ (HAI.out _ B) hll).mono ?_
    rintro e w2 ⟨v, rfl, I1, hb⟩
    obtain ⟨ai1, ci1, rfl⟩ := I1.form
    have A0_ := A0.keep hb
    have B_ := bel_c B (Nat.le_refl _) hb
    have zw2 : w1.heap.size ≤ w2.heap.size := by have := hb.size; first | exact this | simpa using this
    clear A0 B
    have A0 := A0_
    have B := B_
    clear A0_ B_ hb
    go_wp2_with fail
    refine (CS _ _ _ _ I1.o (by first | omega | (simp; done) | (simp; omega))).mono ?_
    rintro e w3 ⟨rfl, hb⟩
    have A0_ := A0.keep hb
    have I1_ := I1.below (hb.mono (by omega))
    have B_ := bel_c B (Nat.le_refl _) hb
    have zw3 : w2.heap.size ≤ w3.heap.size := by have := hb.size; first | exact this | simpa using this
    clear A0 I1 B
    have A0 := A0_
    have I1 := I1_
    have B := B_
    clear A0_ I1_ B_ hb
    clear I1
    have NB := bel0 w3 (.cells #[.int .i64 z.s, .int .i64 z.a, .int .i64 z.b] 41)
    have A0_ := A0.keep NB
    have B_ := bel_n B (Nat.le_refl _) (.cells #[.int .i64 z.s, .int .i64 z.a, .int .i64 z.b] 41)
    clear A0 B
    have A0 := A0_
    have B := B_
    clear A0_ B_ NB
    have U5 := Three.new w3 z 41
    go_wp2_with fail
    refine (ToIntS_any al len1 cap1 zs _ (HAI.out _ B) hll).mono ?_
    rintro e w4 ⟨v, rfl, I2, hb⟩
    simp at I2
    obtain ⟨ai2, ci2, rfl⟩ := I2.form
    have A0_ := A0.keep hb
    have U5_ := U5.keep hb
    have B_ := bel_c B (Nat.le_refl _) hb
    have zw4 : w3.heap.size + 1 ≤ w4.heap.size := by have := hb.size; first | exact this | simpa using this
    clear A0 U5 B
    have A0 := A0_
    have U5 := U5_
    have B := B_
    clear A0_ U5_ B_ hb
    obtain ⟨c_A00, c_A01, c_A02⟩ := id A0
    go_wp2_with fail
    clear c_A00 c_A01 c_A02
    refine (ToCell_any _ _ _ _).mono ?_
    rintro e w5 ⟨rfl, hb⟩
    have A0_ := A0.keep hb
    have U5_ := U5.keep hb
    have I2_ := I2.below (hb.mono (by omega))
    have B_ := bel_c B (Nat.le_refl _) hb
    have zw5 : w4.heap.size ≤ w5.heap.size := by have := hb.size; first | exact this | simpa using this
    clear A0 U5 I2 B
    have A0 := A0_
    have U5 := U5_
    have I2 := I2_
    have B := B_
    clear A0_ U5_ I2_ B_ hb
    go_wp2_with fail
    refine (CI _ _ _ _ I2.o (by first | omega | (simp; done) | (simp; omega))).mono ?_
    rintro e w6 ⟨rfl, hb⟩
    have A0_ := A0.keep hb
    have U5_ := U5.keep hb
    have I2_ := I2.below (hb.mono (by omega))
    have B_ := bel_c B (Nat.le_refl _) hb
    have zw6 : w5.heap.size ≤ w6.heap.size := by have := hb.size; first | exact this | simpa using this
    clear A0 U5 I2 B
    have A0 := A0_
    have U5 := U5_
    have I2 := I2_
    have B := B_
    clear A0_ U5_ I2_ B_ hb
    have NB := bel0 w6 (.cells #[.int .i64 z.s, .int .i64 z.a, .int .i64 z.b] 41)
    have A0_ := A0.keep NB
    have U5_ := U5.keep NB
    have I2_ := I2.below (NB.mono (by omega))
    have B_ := bel_n B (Nat.le_refl _) (.cells #[.int .i64 z.s, .int .i64 z.a, .int .i64 z.b] 41)
    clear A0 U5 I2 B
    have A0 := A0_
    have U5 := U5_
    have I2 := I2_
    have B := B_
    clear A0_ U5_ I2_ B_ NB
    have V7 := Three.new w6 z 41
    obtain ⟨c_V70, c_V71, c_V72⟩ := id V7
    obtain ⟨c_U50, c_U51, c_U52⟩ := id U5
    go_wp2_with fail
    clear c_V70 c_V71 c_V72 c_U50 c_U51 c_U52
    refine (EqCell_same z.s z.a z.b _).mono ?_
    rintro e w7 ⟨rfl, hb⟩
    have A0_ := A0.keep hb
    have U5_ := U5.keep hb
    have I2_ := I2.below (hb.mono (by simp <;> omega))
    have V7_ := V7.keep hb
    have B_ := bel_c B (Nat.le_refl _) hb
    have zw7 : w6.heap.size + 1 ≤ w7.heap.size := by have := hb.size; first | exact this | simpa using this
    clear A0 U5 I2 V7 B
    have A0 := A0_
    have U5 := U5_
    have I2 := I2_
    have V7 := V7_
    have B := B_
    clear A0_ U5_ I2_ V7_ B_ hb
    go_wp2_with fail
    refine (ToIntS_any al len1 cap1 zs _ (HAI.out _ B) hll).mono ?_
    rintro e w8 ⟨v, rfl, I3, hb⟩
    obtain ⟨ai3, ci3, rfl⟩ := I3.form
    have A0_ := A0.keep hb
    have U5_ := U5.keep hb
    have I2_ := I2.below (hb.mono (by omega))
    have V7_ := V7.keep hb
    have B_ := bel_c B (Nat.le_refl _) hb
    have zw8 : w7.heap.size ≤ w8.heap.size := by have := hb.size; first | exact this | simpa using this
    clear A0 U5 I2 V7 B
    have A0 := A0_
    have U5 := U5_
    have I2 := I2_
    have V7 := V7_
    have B := B_
    clear A0_ U5_ I2_ V7_ B_ hb
    go_wp2_with fail
    refine (EqIntS_any _ _ _ _ _ _ zs _ I2 I3 (by first | omega | (simp; done) | (simp; omega)) (by first | omega | (simp; done) | (simp; omega))).mono ?_
    rintro e w9 ⟨rfl, hb⟩
    have A0_ := A0.keep hb
    have U5_ := U5.keep hb
    have I2_ := I2.below (hb.mono (by omega))
    have V7_ := V7.keep hb
    have I3_ := I3.below (hb.mono (by omega))
    have B_ := bel_c B (Nat.le_refl _) hb
    have zw9 : w8.heap.size ≤ w9.heap.size := by have := hb.size; first | exact this | simpa using this
    clear A0 U5 I2 V7 I3 B
    have A0 := A0_
    have U5 := U5_
    have I2 := I2_
    have V7 := V7_
    have I3 := I3_
    have B := B_
    clear A0_ U5_ I2_ V7_ I3_ B_ hb
    go_wp2_with fail
    go_ret
    exact ⟨rfl, B⟩
  · have hl' : (1048576 : Int) < len1 := by omega
    go_enter Try.func6, Try.ntmps6
    go_wp2_with fail
    go_ret
    exact ⟨rfl, bel0 _ _⟩

end Go.Proofs.Ytndffjphdlncpaa
