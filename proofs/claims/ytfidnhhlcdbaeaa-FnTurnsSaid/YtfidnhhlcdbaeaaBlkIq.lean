/- Blocks: the program's SameBlock. -/
import Derived.Test.YtfidnhhlcdbaeaaBlkQ
namespace Go.Proofs.Ytfidnhhlcdbaeaa
open Go.ChangeShapes Go.WideShapes Go.ChangeAt Go.RowKit

set_option maxHeartbeats 1000000 in
theorem EqCells_any (l1 h1 l2 h2 : Nat) (v1 v2 : Value) (xs ys : List C3) (w : World) (r1 : CellIn l1 h1 w v1 xs) (r2 : CellIn l2 h2 w v2 ys) (hh1 : h1 ≤ w.heap.size) (hh2 : h2 ≤ w.heap.size) :
    Calls Try.prog 30 #[v1, v2] w fun e w' => e = .returned (.bool (sameB 0 0 xs ys)) ∧ Below w.heap.size w w' := by
  obtain ⟨a1, c1, rfl⟩ := r1.form
  obtain ⟨a2, c2, rfl⟩ := r2.form
  have R1 := Lib.hid r1
  have R2 := Lib.hid r2
  have hl1 := r1.1
  have hl2 := r2.1
  clear r1 r2
  by_cases hl : xs.length = ys.length
  · have HL := Lib.hid hl
    have hb : ((xs.length : Int) != (ys.length : Int)) = false := by simp [hl]
    clear hl
    go_enter Try.func30, Try.ntmps30
    go_wp2_with fail
    go_loopw [13] (fun i wr => ∃ k : Nat, k ≤ xs.length ∧ i = .int .i64 k ∧ Hid (∀ j, j < k → xs.getD j C3.zero = ys.getD j C3.zero) ∧ Hid (Below w.heap.size w wr)) (fun i _ => xs.length - (intOf i).toNat)
    case atStart => exact ⟨0, Nat.zero_le _, rfl, fun j hj => by omega, Below.refl _ _⟩
    case round =>
      obtain ⟨k, hk, rfl, hup, hbel⟩ := hrel
      by_cases hlt : k < xs.length
      · obtain ⟨g1, rfl, _, _, ⟨e0, e1, e2⟩, _⟩ := R1.out.at (hbel.out.mono hh1) hlt
        have hlt2 : k < ys.length := by rw [← HL.out]; exact hlt
        obtain ⟨g2, rfl, _, _, ⟨f0, f1, f2⟩, _⟩ := R2.out.at (hbel.out.mono hh2) hlt2
        obtain ⟨c, hc⟩ : ∃ c, xs.getD k C3.zero = c := ⟨_, rfl⟩
        obtain ⟨d, hd⟩ : ∃ d, ys.getD k C3.zero = d := ⟨_, rfl⟩
        rw [hc] at e0 e1 e2
        rw [hd] at f0 f1 f2
        have HC := Lib.hid hc
        have HD := Lib.hid hd
        clear hc hd
        rcases C3.parts c d with ⟨q0, hne⟩ | ⟨q0, q1, hne⟩ | ⟨q0, q1, q2, hne⟩ | he
        case inr.inr.inr =>
          subst he
          have HN : Hid (∀ j, j < k + 1 → xs.getD j C3.zero = ys.getD j C3.zero) := Lib.hid (fun j hj => by
            rcases Nat.lt_succ_iff_lt_or_eq.1 hj with h | rfl
            · exact hup.out j h
            · rw [HC.out, HD.out])
          clear HC HD hup
          go_wp2_with fail
          go_quiet (fail)
          go_wp2_with fail
          go_roundw
          case rel => exact ⟨k + 1, by omega, by go_num, HN, Lib.hid ⟨hbel.out.os, hbel.out.tape, hbel.out.output, hbel.out.size, hbel.out.block⟩⟩
          case measure => simp [intOf] <;> omega
        all_goals
          have HN := Lib.hid (same_no_at (n := 0) (m := 0) (xs := xs) (ys := ys) (i := k) (by rw [HC.out, HD.out]; exact hne))
          clear HC HD hup hne
          go_wp2_with fail
          go_quiet (fail)
          go_wp2_with fail
          go_ret
          exact ⟨ret_bool HN.out, ⟨hbel.out.os, hbel.out.tape, hbel.out.output, hbel.out.size, hbel.out.block⟩⟩
      · obtain rfl : k = xs.length := by omega
        have HN := Lib.hid (same_yes (n := 0) (m := 0) rfl HL.out hup.out)
        go_wp2_with fail
        go_ret
        exact ⟨ret_bool HN.out, hbel.out⟩
  · have hb : ((xs.length : Int) != (ys.length : Int)) = true := by simp; omega
    have HN := Lib.hid (same_no (n := 0) (m := 0) (xs := xs) (ys := ys) (fun h => hl (by rw [h.2])))
    clear hl
    go_enter Try.func30, Try.ntmps30
    go_wp2_with fail
    go_ret
    exact ⟨ret_bool HN.out, Below.refl _ _⟩

theorem ImplSame_any (l1 h1 l2 h2 : Nat) (n m : Int) (v1 v2 : Value) (xs ys : List C3) (w : World) (r1 : CellIn l1 h1 w v1 xs) (r2 : CellIn l2 h2 w v2 ys) (hh1 : h1 ≤ w.heap.size) (hh2 : h2 ≤ w.heap.size) :
    Calls Try.prog 10 #[.agg #[.int .i64 n, v1], .agg #[.int .i64 m, v2]] w fun e w' => e = .returned (.bool (sameB n m xs ys)) ∧ Below w.heap.size w w' := by
  obtain ⟨a1, c1, rfl⟩ := r1.form
  obtain ⟨a2, c2, rfl⟩ := r2.form
  have R1 : ∀ W, Below w.heap.size w W → CellIn l1 h1 W (.slice a1 xs.length c1) xs := fun W hb => r1.below (hb.mono hh1)
  have R2 : ∀ W, Below w.heap.size w W → CellIn l2 h2 W (.slice a2 ys.length c2) ys := fun W hb => r2.below (hb.mono hh2)
  have HR1 := Lib.hid R1
  have HR2 := Lib.hid R2
  clear r1 r2 R1 R2
  by_cases hn : n = m
  · subst hn
    have HE : Hid (sameB 0 0 xs ys = sameB n n xs ys) := Lib.hid (by unfold sameB; simp)
    go_enter Try.func10, Try.ntmps10
    go_wp2_with fail
    refine (EqCells_any l1 h1 l2 h2 _ _ xs ys _ (HR1.out _ (bel_n (bel0 w _) (Nat.le_refl _) _)) (HR2.out _ (bel_n (bel0 w _) (Nat.le_refl _) _)) (by simp; omega) (by simp; omega)).mono ?_
    rintro e w1 ⟨rfl, hb⟩
    have HB := Lib.hid (bel_c (bel_n (bel0 w _) (Nat.le_refl _) _) (Nat.le_refl _) hb)
    clear hb
    generalize sameB 0 0 xs ys = r at HE ⊢
    go_wp2_with fail
    go_ret
    exact ⟨ret_bool HE.out, HB.out⟩
  · have hb : (n == m) = false := by simpa using hn
    have HN := Lib.hid (same_no (n := n) (m := m) (xs := xs) (ys := ys) (fun h => hn h.1))
    clear hn
    go_enter Try.func10, Try.ntmps10
    go_wp2_with fail
    go_ret
    exact ⟨ret_bool HN.out, bel_n (bel0 w _) (Nat.le_refl _) _⟩

end Go.Proofs.Ytfidnhhlcdbaeaa
