/- Areas: the model's MainColor. -/
import Derived.Test.YtelpibdbnjmliaaAreT
import Derived.BigQuiet
import Derived.Deep.QuietTactic
namespace Go.Proofs.Ytelpibdbnjmliaa
open Go.ChangeShapes Go.WideShapes Go.ChangeAt Go.RowKit

set_option maxHeartbeats 1000000 in
theorem SpecMain_any (lo hi : Nat) (n : Int) (v : Value) (xs : List C3) (w : World) (r : CellIn lo hi w v xs) (hhi : hi ≤ w.heap.size) :
    Calls Try.prog 33 #[.agg #[.int .i64 n, v]] w fun e w' => e = .returned (.int .i64 (mainOf n xs)) ∧ Below w.heap.size w w' := by
  obtain ⟨a, cap, rfl⟩ := r.form
  have hl := r.1
  have HR := Lib.hid (fun W (hb : Below w.heap.size w W) => r.below (hb.mono hhi))
  clear r
  have CT := Lib.hid (SpecTable_any lo hi n (.slice a xs.length cap) xs (w.alloc (.cells #[.int .i64 n, .slice a xs.length cap] 26)) (HR.out _ (bel0 _ _)) (by simp; omega))
  rw [show mainOf n xs = bst (areaTable n xs) (areaTable n xs).length from rfl]
  generalize areaTable n xs = t at CT ⊢
  go_enter Try.func33, Try.ntmps33
  go_wp2_with fail
  refine CT.out.mono ?_
  rintro e w1 ⟨vt, rfl, RT, hb1⟩
  obtain ⟨ta, tc, rfl⟩ := RT.form
  have htl := RT.1
  have HT := Lib.hid RT
  have HB1 := Lib.hid (bel_c (bel0 w _) (Nat.le_refl _) hb1)
  clear RT hb1
  go_wp2_with fail
  go_loopw [4, 5] (fun q i wr => ∃ k : Nat, k ≤ t.length ∧ i = .int .i64 k ∧ q = .int .i64 (bst t k) ∧ Hid (Below w1.heap.size w1 wr)) (fun _ i _ => t.length - (intOf i).toNat)
  case atStart => exact ⟨0, Nat.zero_le _, rfl, rfl, Lib.hid (Below.refl _ _)⟩
  case round =>
    obtain ⟨k, hk, rfl, rfl, hbel⟩ := hrel
    by_cases hlt : k < t.length
    · obtain ⟨r0, r1, r2⟩ := bst_range t k
      have hs : bst t (k + 1) = if bst t k < 0 ∨ t.getD (bst t k).toNat 0 < t.getD k 0 then (k : Int) else bst t k := rfl
      have HTw := HT.out.below (hbel.out.mono (Nat.le_refl _))
      obtain ⟨g, hg, _, _, e0, _⟩ := HTw.at (Below.refl _ _) hlt
      subst hg
      generalize hB : bst t k = B at *
      clear hB
      by_cases hn : B < 0
      · have HN : Hid (bst t (k + 1) = k) := Lib.hid (by rw [hs, if_pos (.inl hn)])
        generalize t.getD k 0 = x at e0
        clear hs HTw
        go_wp2_with fail
        go_quiet (fail)
        go_wp2_with fail
        go_roundw
        case rel => exact ⟨k + 1, by omega, by go_num, by rw [HN.out], Lib.hid ⟨hbel.out.os, hbel.out.tape, hbel.out.output, hbel.out.size, hbel.out.block⟩⟩
        case measure => simp [intOf] <;> omega
      · obtain ⟨j, rfl⟩ : ∃ j : Nat, B = j := ⟨B.toNat, by omega⟩
        have hj : j < t.length := by omega
        obtain ⟨g2, hg2, _, _, f0, _⟩ := HTw.at (Below.refl _ _) hj
        simp only [Option.some.injEq, Addr.mk.injEq, and_true] at hg2
        subst hg2
        by_cases hx : t.getD j 0 < t.getD k 0
        · have HN : Hid (bst t (k + 1) = k) := Lib.hid (by rw [hs, if_pos (.inr (by rw [Int.toNat_natCast]; exact hx))])
          generalize t.getD k 0 = x at e0 hx
          generalize t.getD j 0 = y at f0 hx
          clear hs HTw
          go_wp2_with fail
          go_quiet (fail)
          go_wp2_with fail
          go_roundw
          case rel => exact ⟨k + 1, by omega, by go_num, by rw [HN.out], Lib.hid ⟨hbel.out.os, hbel.out.tape, hbel.out.output, hbel.out.size, hbel.out.block⟩⟩
          case measure => simp [intOf] <;> omega
        · have HN : Hid (bst t (k + 1) = j) := Lib.hid (by rw [hs, if_neg (fun h => by rcases h with h | h; exact hn h; rw [Int.toNat_natCast] at h; exact hx h)])
          generalize t.getD k 0 = x at e0 hx
          generalize t.getD j 0 = y at f0 hx
          clear hs HTw
          go_wp2_with fail
          go_quiet (fail)
          go_wp2_with fail
          go_roundw
          case rel => exact ⟨k + 1, by omega, by go_num, by rw [HN.out], Lib.hid ⟨hbel.out.os, hbel.out.tape, hbel.out.output, hbel.out.size, hbel.out.block⟩⟩
          case measure => simp [intOf] <;> omega
    · obtain rfl : k = t.length := by omega
      go_wp2_with fail
      go_ret
      exact ⟨rfl, bel_c HB1.out (Nat.le_refl _) hbel.out⟩

end Go.Proofs.Ytelpibdbnjmliaa
