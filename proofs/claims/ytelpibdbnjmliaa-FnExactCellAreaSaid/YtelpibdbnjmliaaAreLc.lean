/- The walk of FnExactCellArea. -/
import Derived.Test.YtelpibdbnjmliaaAreI
import Derived.Test.YtelpibdbnjmliaaAreC
import Derived.Test.YtelpibdbnjmliaaCellE
namespace Go.Proofs.Ytelpibdbnjmliaa
open Go.ChangeShapes Go.WideShapes Go.ChangeAt Go.RowKit

theorem CellAreaLaw_walk (s a b k : Int) (w : World) :
    Calls Try.prog 4 #[.agg #[.int .i64 s, .int .i64 a, .int .i64 b], .int .i64 k] w fun e w' => e = .returned (.bool true) ∧ Below w.heap.size w w' := by
  have CS := SpecArea_any s a b k
  have CI := ImplArea_any s a b k
  generalize arC ⟨s, a, b⟩ k = z at CS CI
  go_enter Try.func4, Try.ntmps4
  go_wp2_with fail
  have T0 := Three.new w ⟨s, a, b⟩ 39
  have B := bel0 w (.cells #[.int .i64 s, .int .i64 a, .int .i64 b] 39)
  refine (ToCell_any _ _ _ _).mono ?_
  rintro e w1 ⟨rfl, hb⟩
  have T1 := T0.keep hb
  have B1 := bel_c B (Nat.le_refl _) hb
  clear hb T0 B
  go_wp2_with fail
  refine (CS _).mono ?_
  rintro e w2 ⟨rfl, hb⟩
  have T2 := T1.keep hb
  have B2 := bel_c B1 (Nat.le_refl _) hb
  clear hb T1 B1
  obtain ⟨c0, c1, c2⟩ := id T2
  go_wp2_with fail
  clear c0 c1 c2
  refine (ToCell_any _ _ _ _).mono ?_
  rintro e w3 ⟨rfl, hb⟩
  have B3 := bel_c B2 (Nat.le_refl _) hb
  clear hb T2 B2
  go_wp2_with fail
  refine (CI _).mono ?_
  rintro e w4 ⟨rfl, hb⟩
  have B4 := bel_c B3 (Nat.le_refl _) hb
  clear hb B3
  go_wp2_with fail
  go_ret
  exact ⟨rfl, B4⟩

end Go.Proofs.Ytelpibdbnjmliaa
