/- EncodeHex answers as its model: the walk of FnExactEncodeHex. -/
import Derived.Test.YthnelahnlinbnaaHex
namespace Go.Proofs.Ythnelahnlinbnaa
open Go.ChangeShapes Go.WideShapes Go.ChangeAt Go.RowKit

theorem ExactEncode_walk (s : ByteArray) (w : World) (hm : s.size ≤ maxLen) :
    Calls Try.prog 4 #[.string s] w fun e w' => e = .returned (.bool true) ∧ Below w.heap.size w w' := by
  have hl : s.size ≤ 9223372036854775807 := by unfold maxLen at hm; omega
  clear hm
  by_cases h1 : s.size ≤ 1048576
  · by_cases h2 : s.size ≤ 20000
    · go_enter Try.func4, Try.ntmps4
      go_wp2_with fail
      refine (SpecEncode_yes s w h2).mono ?_
      rintro e w1 ⟨rfl, hb1⟩
      go_wp2_with fail
      refine (ImplEncode_yes s w1 h2).mono ?_
      rintro e w2 ⟨rfl, hb2⟩
      go_wp2_with fail
      go_ret
      exact ⟨rfl, hb1.trans (hb2.mono hb1.size)⟩
    · go_enter Try.func4, Try.ntmps4
      go_wp2_with fail
      refine (SpecEncode_no s w (by omega) hl).mono ?_
      rintro e w1 ⟨rfl, rfl⟩
      go_wp2_with fail
      refine (ImplEncode_no s w (by omega) hl).mono ?_
      rintro e w2 ⟨rfl, rfl⟩
      go_wp2_with fail
      go_ret
      exact ⟨rfl, Below.refl _ _⟩
  · go_enter Try.func4, Try.ntmps4
    go_wp2_with fail
    go_ret
    exact ⟨rfl, Below.refl _ _⟩
end Go.Proofs.Ythnelahnlinbnaa
