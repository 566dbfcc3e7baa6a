/- One digit: the model's FormatInt. -/
import Derived.Test.YtbfkpjciphkbeaaDoorDigI
import Derived.Test.YtbfkpjciphkbeaaDoorNum
namespace Go.Proofs.YtbfkpjciphkbeaaDoor
open Go.ChangeShapes Go.WideShapes Go.ChangeAt Go.RowKit

theorem itoa_dgt {n : Int} (h0 : 0 ≤ n) (h1 : n ≤ 9) : (⟨(Lib.itoa n).toArray⟩ : ByteArray) = dgt n := by
  unfold Lib.itoa dgt
  rw [if_neg (by omega), Lib.decDigits_one (by omega)]

theorem SpecDigit_any (n : Int) (w : World) (h0 : 0 ≤ n) (h1 : n ≤ 9) :
    Calls Tryd.prog 20 #[.int .i64 n] w fun e w' => e = .returned (.string (dgt n)) ∧ Below w.heap.size w w' := by
  rw [← itoa_dgt h0 h1]
  by_cases hz : n = 0
  · subst hz
    have e0 : Lib.itoa 0 = [48] := by unfold Lib.itoa; rw [if_neg (by omega), Lib.decDigits]; rfl
    have E0 := Lib.hid e0
    clear e0
    go_enter Tryd.func20, Tryd.ntmps20
    go_wp2_with fail
    go_ret
    exact ⟨by rw [E0.out]; rfl, Below.refl _ _⟩
  · obtain ⟨k, rfl⟩ : ∃ k : Nat, n = k := ⟨n.toNat, by omega⟩
    exact SpecFormat_pos k w (by omega) (by omega)

end Go.Proofs.YtbfkpjciphkbeaaDoor
