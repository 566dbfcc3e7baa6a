/- Rows of ints: marks from one on. -/
import Derived.Test.YtelpibdbnjmliaaIntM
namespace Go.Proofs.Ytelpibdbnjmliaa
open Go.ChangeShapes Go.WideShapes Go.ChangeAt Go.RowKit

/-- The number behind the last mark. -/
def mkI (zs : List Int) : Int := ((1 + zs.length : Nat) : Int)
theorem mkI_pos (zs : List Int) : ¬ mkI zs < 0 := by unfold mkI; omega
theorem MarkIOne (lo hi : Nat) (v : Value) (zs : List Int) (w : World) (r : IntIn lo hi w v zs) :
    Calls Try.prog 31 #[v, .int .i64 1] w fun e w' => e = .returned (.int .i64 (mkI zs)) ∧ IntIn lo hi w' v (markI 1 zs.length) ∧ Within lo hi w w' :=
  MarkIntS_any lo hi v zs 1 w r (by omega)
theorem HeldIOne (lo hi : Nat) (v : Value) (zs : List Int) (w : World) (r : IntIn lo hi w v (markI 1 zs.length)) :
    Calls Try.prog 32 #[v, .int .i64 1] w fun e w' => e = .returned (.int .i64 (mkI zs)) ∧ w' = w :=
  HeldIntS_any lo hi v zs.length 1 w r (by omega)

end Go.Proofs.Ytelpibdbnjmliaa
