/- The walk of FnExactTurnCell. -/
import Derived.Test.YtjleaddgebhgcaaTurI
import Derived.Test.YtjleaddgebhgcaaTurC
import Derived.Test.YtjleaddgebhgcaaCellE
import Derived.Test.YtjleaddgebhgcaaCellQ
import Derived.Test.YtjleaddgebhgcaaBlkN
namespace Go.Proofs.Ytjleaddgebhgcaa
open Go.ChangeShapes Go.WideShapes Go.ChangeAt Go.RowKit

theorem TurnCLaw_walk (s a b : Int) (w : World) :
    Calls Try.prog 4 #[.agg #[.int .i64 s, .int .i64 a, .int .i64 b]] w fun e w' => e = .returned (.bool true) ∧ Below w.heap.size w w' := by
  have CS := SpecTurnCell_any s a b
  have CI := ImplTurnCell_any s a b
  generalize turnZ ⟨s, a, b⟩ = z at CS CI
  go_enter Try.func4, Try.ntmps4
  go_wp2_with fail
  have T0 := Three.new w ⟨s, a, b⟩ 40
  have B := bel0 w (.cells #[.int .i64 s, .int .i64 a, .int .i64 b] 40)
  refine (ToCell_any _ _ _ _).mono ?_
  rintro e w1 ⟨rfl, hb⟩
  have T1 := T0.keep hb
  have B1 := bel_c B (Nat.le_refl _) hb
  clear hb T0 B
  go_wp2_with fail
  refine (CS _).mono ?_
  rintro e w2 ⟨rfl, hb⟩
  have T2 := (T1.keep hb).keep (bel0 w2 (.cells #[.int .i64 z.s, .int .i64 z.a, .int .i64 z.b] 29))
  have U2 := Three.new w2 z 29
  have B2 := bel_n (bel_c B1 (Nat.le_refl _) hb) (Nat.le_refl _) (.cells #[.int .i64 z.s, .int .i64 z.a, .int .i64 z.b] 29)
  clear hb T1 B1
  obtain ⟨c0, c1, c2⟩ := id T2
  go_wp2_with fail
  clear c0 c1 c2
  refine (ToCell_any _ _ _ _).mono ?_
  rintro e w3 ⟨rfl, hb⟩
  have U3 := U2.keep hb
  have B3 := bel_c B2 (Nat.le_refl _) hb
  clear hb T2 U2 B2
  go_wp2_with fail
  refine (CI _).mono ?_
  rintro e w4 ⟨rfl, hb⟩
  have U4 := (U3.keep hb).keep (bel0 w4 (.cells #[.int .i64 z.s, .int .i64 z.a, .int .i64 z.b] 29))
  have V4 := Three.new w4 z 29
  have B4 := bel_n (bel_c B3 (Nat.le_refl _) hb) (Nat.le_refl _) (.cells #[.int .i64 z.s, .int .i64 z.a, .int .i64 z.b] 29)
  clear hb U3 B3
  obtain ⟨c0, c1, c2⟩ := id U4
  obtain ⟨d0, d1, d2⟩ := id V4
  go_wp2_with fail
  clear c0 c1 c2 d0 d1 d2
  refine (EqCell_same z.s z.a z.b _).mono ?_
  rintro e w5 ⟨rfl, hb⟩
  have B5 := bel_c B4 (Nat.le_refl _) hb
  clear hb U4 V4 B4
  go_wp2_with fail
  go_ret
  exact ⟨rfl, B5⟩

end Go.Proofs.Ytjleaddgebhgcaa
