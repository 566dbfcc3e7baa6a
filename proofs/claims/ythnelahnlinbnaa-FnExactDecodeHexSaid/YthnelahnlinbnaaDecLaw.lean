/- DecodeHex answers as its model: the walk of FnExactDecodeHex. -/
import Derived.Test.YthnelahnlinbnaaDec
namespace Go.Proofs.Ythnelahnlinbnaa
open Go.ChangeShapes Go.WideShapes Go.ChangeAt Go.RowKit

theorem ExactDecode_walk (s : ByteArray) (w : World) (hm : s.size ≤ maxLen) :
    Calls Try.prog 5 #[.string s] w fun e w' => e = .returned (.bool true) ∧ Below w.heap.size w w' := by
  have hl : s.size ≤ 9223372036854775807 := by unfold maxLen at hm; omega
  clear hm
  by_cases h1 : s.size ≤ 1048576
  · by_cases h2 : s.size ≤ 40000 ∧ s.size % 2 = 0
    · go_enter Try.func5, Try.ntmps5
      go_wp2_with fail
      have H2 := Lib.hid h2
      clear h2
      refine (SpecDecode_even s w H2.out.1 H2.out.2).mono ?_
      rintro e w1 ⟨⟨ho, rfl⟩ | ⟨ho, rfl⟩, hb1⟩
      all_goals
        have HO := Lib.hid ho
        clear ho
        go_wp2_with fail
        refine (ImplDecode_even s w1 H2.out.1 H2.out.2).mono ?_
        rintro e w2 ⟨⟨hq, rfl⟩ | ⟨hq, rfl⟩, hb2⟩
        all_goals first
          | exact absurd HO.out hq
          | exact absurd hq HO.out
          | (clear hq
             go_wp2_with fail
             go_ret
             exact ⟨rfl, hb1.trans (hb2.mono hb1.size)⟩)
    · have h3 : 40000 < s.size ∨ s.size % 2 = 1 := by omega
      have H3 := Lib.hid h3
      clear h2 h3
      go_enter Try.func5, Try.ntmps5
      go_wp2_with fail
      refine (SpecDecode_no s w H3.out hl).mono ?_
      rintro e w1 ⟨rfl, rfl⟩
      go_wp2_with fail
      refine (ImplDecode_no s w H3.out hl).mono ?_
      rintro e w2 ⟨rfl, rfl⟩
      go_wp2_with fail
      go_ret
      exact ⟨rfl, Below.refl _ _⟩
  · go_enter Try.func5, Try.ntmps5
    go_wp2_with fail
    go_ret
    exact ⟨rfl, Below.refl _ _⟩
end Go.Proofs.Ythnelahnlinbnaa
