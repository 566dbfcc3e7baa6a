/- The model's digit. -/
import Derived.Test.YtbfkpjciphkbeaaDoorRows
import Derived.Test.YtbfkpjciphkbeaaDoorBase
import Derived.Test.YtbfkpjciphkbeaaDoorHexF
import Derived.WalkKit
import Derived.ProofKit
import Derived.OpenShut
import Derived.WalkSmall
import Derived.BigQuiet
import Derived.Deep.QuietTactic
import Derived.StillTailTactics
import Derived.Deep.RegionHeld3
import Derived.Deep.AppendLies
import Derived.Outline
import Derived.IntWalk
import Derived.Lib.Hide
import Derived.ShutString
namespace Go.Proofs.YtbfkpjciphkbeaaDoor
open Go.ChangeShapes Go.WideShapes Go.ChangeAt Go.RowKit

theorem hexDig_lo (k : Nat) (h : k < 10) : ((hexDig k).toNat : Int) = 48 + k := by
  unfold hexDig; rw [if_pos h]; simp; omega
theorem hexDig_hi (k : Nat) (h : ¬ k < 10) (h2 : k < 16) : ((hexDig k).toNat : Int) = 87 + k := by
  unfold hexDig; rw [if_neg h]; simp; omega

theorem Figure_any (k : Nat) (w : World) (hk : k < 16) :
    Calls Tryd.prog 25 #[.int .i64 k] w fun e w' => e = .returned (.int .u8 ((hexDig k).toNat)) ∧ w' = w := by
  by_cases h : k < 10
  · have e1 := Lib.hid (hexDig_lo k h)
    go_enter Tryd.func25, Tryd.ntmps25
    go_wp2
    go_ret
    exact ⟨by rw [e1.out]; rfl, rfl⟩
  · have e1 := Lib.hid (hexDig_hi k h hk)
    go_enter Tryd.func25, Tryd.ntmps25
    go_wp2
    go_ret
    exact ⟨by rw [e1.out]; go_num, rfl⟩

theorem Figure_int (x : Int) (w : World) (h0 : 0 ≤ x) (h1 : x < 16) :
    Calls Tryd.prog 25 #[.int .i64 x] w fun e w' => e = .returned (.int .u8 ((hexDig x.toNat).toNat)) ∧ w' = w := by
  obtain ⟨k, rfl⟩ : ∃ k : Nat, x = k := ⟨x.toNat, by omega⟩
  exact Figure_any k w (by omega)

theorem Figure_at (k : Nat) (x : Int) (w : World) (hx : x = k) (hk : k < 16) :
    Calls Tryd.prog 25 #[.int .i64 x] w fun e w' => e = .returned (.int .u8 ((hexDig k).toNat)) ∧ w' = w := by
  subst hx
  exact Figure_any k w hk

end Go.Proofs.YtbfkpjciphkbeaaDoor
