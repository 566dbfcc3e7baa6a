/- Areas: the program's CountTriangles. -/
import Derived.Test.YtelpibdbnjmliaaAreF
import Derived.Test.YtelpibdbnjmliaaBlkIa
namespace Go.Proofs.Ytelpibdbnjmliaa
open Go.ChangeShapes Go.WideShapes Go.ChangeAt Go.RowKit Go.Maps

set_option maxHeartbeats 400000 in
theorem ImplTris_any (lo hi : Nat) (n : Int) (v : Value) (xs : List C3) (w : World) (r : CellIn lo hi w v xs) (hhi : hi ≤ w.heap.size) :
    Calls Try.prog 17 #[.agg #[.int .i64 n, v]] w fun e w' => e = .returned (.int .i64 (trisOf n xs)) ∧ Below w.heap.size w w' := by
  obtain ⟨a, cap, rfl⟩ := r.form
  have hl := r.1
  have HR := Lib.hid (fun W (hb : Below w.heap.size w W) => r.below (hb.mono hhi))
  clear r
  by_cases hb : BlkOk n xs
  · rw [tris_yes hb]
    have HB := Lib.hid hb
    have hx := (blk_len hb).2
    clear hb
    go_enter Try.func17, Try.ntmps17
    go_wp2_with fail
    refine (ImplBlockOk_yes lo hi n _ xs _ (HR.out _ (bel0 _ _)) (by simp; omega) HB.out).mono ?_
    rintro e w1 ⟨rfl, hb1⟩
    have p1 := kept (p := ⟨w.heap.size, 1, none⟩) (x := .slice a xs.length cap) hb1 (by go_simp)
    have B1 := Lib.hid (bel_c (bel0 w _) (Nat.le_refl _) hb1)
    clear hb1
    go_wp2_with fail
    clear p1
    go_loopw [3, 12] (fun q i wr => ∃ m : Nat, m ≤ xs.length ∧ i = .int .i64 m ∧ q = .int .i64 (tri xs m) ∧ Hid (Below w.heap.size w wr)) (fun _ i _ => xs.length - (intOf i).toNat)
    case atStart => exact ⟨0, Nat.zero_le _, rfl, by rw [tri_zero], B1⟩
    case round =>
      obtain ⟨m, hk, rfl, rfl, hbel⟩ := hrel
      by_cases hlt : m < xs.length
      · obtain ⟨g, rfl, _, _, ⟨e0, e1, e2⟩, _⟩ := (HR.out _ hbel.out).at (Below.refl _ _) hlt
        have HN := Lib.hid (tri_succ xs hlt)
        have hA := tri_bound xs m hk
        generalize xs.getD m C3.zero = c at e0 e1 e2 HN
        generalize hAA : tri xs m = A at HN hA ⊢
        clear hAA
        have HB2 := Lib.hid (bel_n hbel.out (Nat.le_refl _) (.cells #[.int .i64 c.s, .int .i64 c.a, .int .i64 c.b] 34))
        by_cases hs : c.s = 0
        · have hsb : (c.s != 0) = false := by simp [hs]
          have HN2 : Hid (tri xs (m + 1) = A) := Lib.hid (by rw [HN.out, if_pos hs]; omega)
          clear hs HN
          go_wp2_with fail
          go_roundw
          case rel => exact ⟨m + 1, by omega, by go_num, by rw [HN2.out], HB2⟩
          case measure => simp [intOf] <;> omega
        · have hsb : (c.s != 0) = true := by simp [hs]
          have HN2 : Hid (tri xs (m + 1) = A + 2) := Lib.hid (by rw [HN.out, if_neg hs])
          clear hs HN
          go_wp2_with fail
          go_roundw
          case rel => exact ⟨m + 1, by omega, by go_num, by rw [HN2.out], HB2⟩
          case measure => simp [intOf] <;> omega
      · obtain rfl : m = xs.length := by omega
        go_wp2_with fail
        go_ret
        exact ⟨rfl, hbel.out⟩
  · rw [tris_no hb]
    have HB := Lib.hid hb
    clear hb
    go_enter Try.func17, Try.ntmps17
    go_wp2_with fail
    refine (ImplBlockOk_no lo hi n _ xs _ (HR.out _ (bel0 _ _)) (by simp; omega) HB.out).mono ?_
    rintro e w1 ⟨rfl, hb1⟩
    go_wp2_with fail
    go_ret
    exact ⟨rfl, bel_c (bel0 w _) (Nat.le_refl _) hb1⟩

end Go.Proofs.Ytelpibdbnjmliaa
