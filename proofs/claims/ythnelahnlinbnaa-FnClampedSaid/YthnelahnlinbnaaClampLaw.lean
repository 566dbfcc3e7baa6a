/- Clamped numbers: FnClamped holds. -/
import Derived.Test.YthnelahnlinbnaaDraw
namespace Go.Proofs.Ythnelahnlinbnaa
open Go.ChangeShapes Go.WideShapes Go.ChangeAt Go.RowKit

/-- Three numbers are drawn. -/
def Drawn3 (Q : Int → Int → Int → Prop) (w : World) (e : Ending) (w' : World) : Prop :=
  ∃ x y z : Int, Q x y z ∧ e = .returned (.tuple #[.int .i64 x, .int .i64 y, .int .i64 z]) ∧ Below w.heap.size w w'

theorem DrawClamp_any (a : Option Addr) (len cap : Nat) (w : World) (hs : Src w w.heap.size a len) (hlen : len ≤ 1048576) :
    Calls Try.prog 9 #[.slice a len cap] w (Drawn3 (fun x y z => I64 x ∧ I64 y ∧ I64 z) w) := by
  go_enter Try.func9, Try.ntmps9
  go_wp2_with fail
  refine (New_any a len cap w hs hlen).mono ?_
  rintro e w1 ⟨rfl, hc1, hb1⟩
  go_wp2_with fail
  refine (Once_any _ a len cap _ w1 hc1 (by omega) (by omega)).mono ?_
  rintro e w2 ⟨x, rfl, hc2, hb2⟩
  cases x
  · go_wp2_with fail
    refine (Below_any _ a len cap _ w2 hc2 (by omega) (by omega)).mono ?_
    rintro e w3 ⟨x, ⟨x0, x1⟩, rfl, hc3, hb3⟩
    go_wp2_with fail
    refine (Below_any _ a len cap _ w3 hc3 (by omega) (by omega)).mono ?_
    rintro e w4 ⟨y, ⟨y0, y1⟩, rfl, hc4, hb4⟩
    go_wp2_with fail
    refine (Below_any _ a len cap _ w4 hc4 (by omega) (by omega)).mono ?_
    rintro e w5 ⟨z, ⟨z0, z1⟩, rfl, hc5, hb5⟩
    go_wp2_with fail
    go_ret3
    exact ⟨_, _, _, ⟨⟨by omega, by omega⟩, ⟨by omega, by omega⟩, ⟨by omega, by omega⟩⟩, rfl, hb1.trans ((((hb2.trans hb3).trans hb4).trans hb5).below (Nat.le_refl _) hb1.size)⟩
  · go_wp2_with fail
    refine (Number_any _ a len cap w2 hc2).mono ?_
    rintro e w3 ⟨x, hx, rfl, hc3, hb3⟩
    go_wp2_with fail
    refine (Number_any _ a len cap w3 hc3).mono ?_
    rintro e w4 ⟨y, hy, rfl, hc4, hb4⟩
    go_wp2_with fail
    refine (Number_any _ a len cap w4 hc4).mono ?_
    rintro e w5 ⟨z, hz, rfl, hc5, hb5⟩
    go_wp2_with fail
    go_ret3
    exact ⟨_, _, _, ⟨hx, hy, hz⟩, rfl, hb1.trans ((((hb2.trans hb3).trans hb4).trans hb5).below (Nat.le_refl _) hb1.size)⟩

theorem Clamped_walk (a : Option Addr) (len cap : Nat) (w : World) (hs : Src w w.heap.size a len) :
    Calls Try.prog 3 #[.slice a len cap] w fun e w' => e = .returned (.bool true) ∧ Below w.heap.size w w' := by
  have HS := Lib.hid hs
  obtain ⟨hm, _⟩ := hs
  have hl : len ≤ 9223372036854775807 := by unfold maxLen at hm; omega
  clear hm
  by_cases hb : len ≤ 1048576
  · go_enter Try.func3, Try.ntmps3
    go_wp2_with fail
    refine (Big_no a len cap w hb).mono ?_
    rintro e w' ⟨rfl, rfl⟩
    go_wp2_with fail
    refine (DrawClamp_any a len cap w HS.out hb).mono ?_
    rintro e w1 ⟨x, y, z, ⟨⟨x0, x1⟩, ⟨y0, y1⟩, ⟨z0, z1⟩⟩, rfl, hb1⟩
    by_cases h1 : z < y
    · by_cases h2 : x < y
      all_goals
        go_wp2
        go_ret
        exact ⟨rfl, hb1⟩
    · by_cases h2 : x < y
      · go_wp2
        go_ret
        exact ⟨rfl, hb1⟩
      · by_cases h3 : z < x
        all_goals
          go_wp2
          go_ret
          exact ⟨rfl, hb1⟩
  · go_enter Try.func3, Try.ntmps3
    go_wp2_with fail
    refine (Big_yes a len cap w hl (by omega)).mono ?_
    rintro e w' ⟨rfl, rfl⟩
    go_wp2_with fail
    go_ret
    exact ⟨rfl, Below.refl _ _⟩
end Go.Proofs.Ythnelahnlinbnaa
