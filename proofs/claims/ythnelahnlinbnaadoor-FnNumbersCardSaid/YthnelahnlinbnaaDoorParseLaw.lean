/- ParseUint answers as its model, and exactly the numbers within the limit can be parsed: the walks of FnExactParseUint and FnNumbers. -/
import Derived.Test.YthnelahnlinbnaaDoorParse
import Derived.Test.YthnelahnlinbnaaDoorDraw
namespace Go.Proofs.YthnelahnlinbnaaDoor
open Go.ChangeShapes Go.WideShapes Go.ChangeAt Go.RowKit

theorem ExactParse_walk (s : ByteArray) (w : World) (hm : s.size ≤ maxLen) (h1 : ErrVar "strconv.ErrSyntax" w) (h2 : ErrVar "strconv.ErrRange" w) (ht : Lib.TabIs Tryd.prog w "internal/strconv.uint64pow10" .u64 Lib.pow10Tab) :
    Calls Tryd.prog 7 #[.string s] w fun e w' => e = .returned (.bool true) ∧ Below w.heap.size w w' := by
  have hl : s.size ≤ 9223372036854775807 := by unfold maxLen at hm; omega
  have H1 := Lib.hid h1
  have H2 := Lib.hid h2
  have HT := Lib.hid ht
  clear hm h1 h2 ht
  by_cases hb : s.size ≤ 1048576
  · go_enter Tryd.func7, Tryd.ntmps7
    go_wp2_with fail
    refine (SpecParse_any s _ hl).mono ?_
    rintro e w1 ⟨⟨m, hn, rfl⟩ | ⟨hn, rfl⟩, hb1⟩
    all_goals
      have HN := Lib.hid hn
      clear hn
      go_wp2_with fail
      refine (ImplParse_any s _ hb (err_kept gSyn H1.out hb1) (err_kept gRan H2.out hb1) (tab_kept HT.out hb1)).mono ?_
      rintro e w2 ⟨⟨k, hk, rfl⟩ | ⟨hk, rfl⟩, hb2⟩
      all_goals first
        | exact absurd HN.out.2 (hk _ HN.out.1)
        | exact absurd hk.2 (HN.out _ hk.1)
        | (obtain rfl : k = m := itoa_inj (hk.2.trans HN.out.2.symm)
           clear hk
           go_wp2_with fail
           go_ret
           exact ⟨rfl, hb1.trans (hb2.mono hb1.size)⟩)
        | (clear hk
           go_wp2_with fail
           go_ret
           exact ⟨rfl, hb1.trans (hb2.mono hb1.size)⟩)
  · go_enter Tryd.func7, Tryd.ntmps7
    go_wp2_with fail
    go_ret
    exact ⟨rfl, Below.refl _ _⟩

/-- A number is drawn. -/
def Drawn1 (Q : Int → Prop) (w : World) (e : Ending) (w' : World) : Prop :=
  ∃ x : Int, Q x ∧ e = .returned (.int .i64 x) ∧ Below w.heap.size w w'

theorem mul_bd (x y : Int) (h0 : 0 ≤ x) (h1 : x < 1000000) (h2 : -1000000 ≤ y) (h3 : y < 1000000) : -1000000000000 ≤ x * y ∧ x * y ≤ 1000000000000 := by
  constructor
  · have a : x * (-1000000) ≤ x * y := Int.mul_le_mul_of_nonneg_left h2 h0
    omega
  · have a : x * y ≤ x * 1000000 := Int.mul_le_mul_of_nonneg_left (by omega) h0
    omega

theorem DrawFormat_any (a : Option Addr) (len cap : Nat) (w : World) (hs : Src w w.heap.size a len) (hlen : len ≤ 1048576) :
    Calls Tryd.prog 13 #[.slice a len cap] w (Drawn1 I64 w) := by
  go_enter Tryd.func13, Tryd.ntmps13
  go_wp2_with fail
  refine (New_any a len cap w hs hlen).mono ?_
  rintro e w1 ⟨rfl, hc1, hb1⟩
  go_wp2_with fail
  refine (Once_any _ a len cap _ w1 hc1 (by omega) (by omega)).mono ?_
  rintro e w2 ⟨x, rfl, hc2, hb2⟩
  cases x
  · go_wp2_with fail
    refine (Number_any _ a len cap w2 hc2).mono ?_
    rintro e w3 ⟨x, hx, rfl, hc3, hb3⟩
    go_wp2_with fail
    go_ret
    exact ⟨_, hx, rfl, hb1.trans ((hb2.trans hb3).below (Nat.le_refl _) hb1.size)⟩
  · go_wp2_with fail
    refine (Below_any _ a len cap _ w2 hc2 (by omega) (by omega)).mono ?_
    rintro e w3 ⟨x, ⟨x0, x1⟩, rfl, hc3, hb3⟩
    go_wp2_with fail
    refine (Below_any _ a len cap _ w3 hc3 (by omega) (by omega)).mono ?_
    rintro e w4 ⟨y, ⟨y0, y1⟩, rfl, hc4, hb4⟩
    have hm := mul_bd x (y - 1000000) x0 x1 (by omega) (by omega)
    obtain ⟨m0, m1⟩ := hm
    go_wp2_with fail
    go_ret
    exact ⟨_, ⟨by omega, by omega⟩, rfl, hb1.trans (((hb2.trans hb3).trans hb4).below (Nat.le_refl _) hb1.size)⟩

theorem itoa_ne (n : Int) : Lib.itoa n ≠ [] := by
  unfold Lib.itoa
  split
  · simp
  · exact dd_ne _
theorem itoa_out {n : Int} (h : n < 0 ∨ 1000000000 < n) : noNum (Lib.itoa n) := by
  intro m hm he
  by_cases hn : n < 0
  · rw [itoa_nat] at he
    have h1 : (45 : UInt8) ∈ Lib.decDigits m := by rw [he]; unfold Lib.itoa; rw [if_pos hn]; simp
    have h2 := dig_dd m _ h1
    revert h2
    unfold isDig
    decide
  · obtain ⟨k, rfl⟩ : ∃ k : Nat, n = k := ⟨n.toNat, by omega⟩
    have := itoa_inj he
    omega

theorem itoa_size {n : Int} (h0 : -9223372036854775808 ≤ n) (h1 : n ≤ 9223372036854775807) : (Lib.itoa n).length ≤ 21 := by
  have e : (10 : Nat) ^ (19 + 1) = 100000000000000000000 := by decide
  unfold Lib.itoa
  split
  · have := dd_length 19 n.natAbs (by omega)
    simp
    omega
  · have := dd_length 19 n.toNat (by omega)
    omega

theorem Numbers_walk (a : Option Addr) (len cap : Nat) (w : World) (hs : Src w w.heap.size a len) (h1 : ErrVar "strconv.ErrSyntax" w) (h2 : ErrVar "strconv.ErrRange" w) (ht : Lib.TabIs Tryd.prog w "internal/strconv.uint64pow10" .u64 Lib.pow10Tab) :
    Calls Tryd.prog 4 #[.slice a len cap] w fun e w' => e = .returned (.bool true) ∧ Below w.heap.size w w' := by
  have HS := Lib.hid hs
  have H1 := Lib.hid h1
  have H2 := Lib.hid h2
  have HT := Lib.hid ht
  clear h1 h2 ht
  obtain ⟨hm, _⟩ := hs
  have hl : len ≤ 9223372036854775807 := by unfold maxLen at hm; omega
  clear hm
  by_cases hb : len ≤ 1048576
  · go_enter Tryd.func4, Tryd.ntmps4
    go_wp2_with fail
    refine (Big_no a len cap w hb).mono ?_
    rintro e w' ⟨rfl, rfl⟩
    go_wp2_with fail
    refine (DrawFormat_any a len cap w HS.out hb).mono ?_
    rintro e w1 ⟨n, ⟨n0, n1⟩, rfl, hb1⟩
    go_wp2_with fail
    refine (ImplFormat_any n _ n0 n1 (tab_kept HT.out hb1)).mono ?_
    rintro e w2 ⟨rfl, hb2⟩
    have hb12 := hb1.trans (hb2.mono hb1.size)
    have hsz : (⟨(Lib.itoa n).toArray⟩ : ByteArray).size ≤ 1048576 := by
      have := itoa_size n0 n1
      show (Lib.itoa n).toArray.size ≤ _
      simp
      omega
    have HZ := Lib.hid hsz
    have hemp : (Lib.itoa n).isEmpty = false := by simpa using itoa_ne n
    clear hsz
    go_wp2_with fail
    refine (ImplParse_any _ _ HZ.out (err_kept gSyn H1.out hb12) (err_kept gRan H2.out hb12) (tab_kept HT.out hb12)).mono ?_
    rintro e w3 ⟨⟨k, hk, rfl⟩ | ⟨hk, rfl⟩, hb3⟩
    · have hk1 : (k : Int) = n := by
        by_cases ho : n < 0 ∨ 1000000000 < n
        · exact absurd hk.2 (itoa_out ho k hk.1)
        · obtain ⟨m, rfl⟩ : ∃ m : Nat, n = m := ⟨n.toNat, by omega⟩
          rw [itoa_inj hk.2]
      have hk2 := hk.1
      have hnn : 0 ≤ n := by omega
      have hnx : n ≤ 1000000000 := by omega
      have hq : ((k : Int) == n) = true := by rw [hk1]; simp
      clear hk hk1
      go_wp2_with fail
      go_ret
      exact ⟨rfl, hb12.trans (hb3.mono (Nat.le_trans hb1.size hb2.size))⟩
    · have ho : n < 0 ∨ 1000000000 < n := by
        by_cases ho : n < 0 ∨ 1000000000 < n
        · exact ho
        · obtain ⟨m, rfl⟩ : ∃ m : Nat, n = m := ⟨n.toNat, by omega⟩
          exact absurd rfl (hk m (by omega))
      clear hk
      rcases ho with ho | ho
      · go_wp2_with fail
        go_ret
        exact ⟨rfl, hb12.trans (hb3.mono (Nat.le_trans hb1.size hb2.size))⟩
      · go_wp2_with fail
        go_ret
        exact ⟨rfl, hb12.trans (hb3.mono (Nat.le_trans hb1.size hb2.size))⟩
  · go_enter Tryd.func4, Tryd.ntmps4
    go_wp2_with fail
    refine (Big_yes a len cap w hl (by omega)).mono ?_
    rintro e w' ⟨rfl, rfl⟩
    go_wp2_with fail
    go_ret
    exact ⟨rfl, Below.refl _ _⟩
end Go.Proofs.YthnelahnlinbnaaDoor
