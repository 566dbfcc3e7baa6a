/- FormatInt answers as its model: the walk of FnExactFormatInt. -/
import Derived.Test.YthnelahnlinbnaaDoorNum
import Derived.Test.YthnelahnlinbnaaDoorFmtLawI
namespace Go.Proofs.YthnelahnlinbnaaDoor
open Go.ChangeShapes Go.WideShapes Go.ChangeAt Go.RowKit

theorem SpecFormat_any (n : Int) (w : World) (h0 : -9223372036854775808 ≤ n) (h1 : n ≤ 9223372036854775807) :
    Calls Tryd.prog 19 #[.int .i64 n] w fun e w' => e = .returned (.string ⟨(Lib.itoa n).toArray⟩) ∧ Below w.heap.size w w' := by
  by_cases hz : n = 0
  · subst hz
    have e0 : Lib.itoa 0 = [48] := by unfold Lib.itoa; rw [if_neg (by omega), Lib.decDigits]; rfl
    have E0 := Lib.hid e0
    clear e0
    go_enter Tryd.func19, Tryd.ntmps19
    go_wp2_with fail
    go_ret
    exact ⟨by rw [E0.out]; rfl, Below.refl _ _⟩
  · by_cases hp : 0 < n
    · obtain ⟨k, rfl⟩ : ∃ k : Nat, n = k := ⟨n.toNat, by omega⟩
      exact SpecFormat_pos k w (by omega) (by omega)
    · obtain ⟨k, rfl⟩ : ∃ k : Nat, n = -(k : Int) := ⟨n.natAbs, by omega⟩
      exact SpecFormat_neg k w (by omega) (by omega)

theorem ExactFormat_walk (n : Int) (w : World) (hn : (Lit.int .i64 n).wf = true) (ht : Lib.TabIs Tryd.prog w "internal/strconv.uint64pow10" .u64 Lib.pow10Tab) :
    Calls Tryd.prog 6 #[.int .i64 n] w fun e w' => e = .returned (.bool true) ∧ Below w.heap.size w w' := by
  have hb := bounds_i64 hn
  have HT := Lib.hid ht
  clear ht hn
  obtain ⟨h0, h1⟩ := hb
  go_enter Tryd.func6, Tryd.ntmps6
  go_wp2_with fail
  refine (SpecFormat_any n _ h0 h1).mono ?_
  rintro e w1 ⟨rfl, hb1⟩
  have ht1 : Lib.TabIs Tryd.prog w1 "internal/strconv.uint64pow10" .u64 Lib.pow10Tab := tab_kept HT.out hb1
  have HT1 := Lib.hid ht1
  clear ht1
  go_wp2_with fail
  refine (ImplFormat_any n _ h0 h1 HT1.out).mono ?_
  rintro e w2 ⟨rfl, hb2⟩
  go_wp2_with fail
  go_ret
  exact ⟨rfl, hb1.trans (hb2.mono hb1.size)⟩
end Go.Proofs.YthnelahnlinbnaaDoor
