/- Rows of cuts: marked, and held against the marks. -/
import Derived.Test.YtakjgnkkeefgbaaCutT
import Derived.Test.YtakjgnkkeefgbaaBlkM
namespace Go.Proofs.Ytakjgnkkeefgbaa
open Go.ChangeShapes Go.WideShapes Go.ChangeAt Go.RowKit

theorem CutIn.within {lo hi l2 h2 : Nat} {u w : World} {v : Value} {xs : List C2} (r : CutIn l2 h2 u v xs) (h : Within lo hi u w) (ho : h2 ≤ lo ∨ hi ≤ l2) (hh : h2 ≤ u.heap.size) : CutIn l2 h2 w v xs := by
  obtain ⟨hl, r | ⟨g, cap, hv, hcp, hg, hlt, hc⟩⟩ := r
  · exact ⟨hl, .inl r⟩
  · refine ⟨hl, .inr ⟨g, cap, hv, hcp, hg, hlt, fun i hi => ?_⟩⟩
    have hb : w.heap[g]? = u.heap[g]? := h.block g (by omega) (by omega)
    obtain ⟨⟨e0, e1⟩, f0, f1⟩ := hc i hi
    exact ⟨⟨(World.cell?_of_block (w := u) hb).trans e0, (World.cell?_of_block (w := u) hb).trans e1⟩,
      (World.frozen?_of_block (w := u) hb).trans f0, (World.frozen?_of_block (w := u) hb).trans f1⟩

/-- The marks from k on. -/
def markCut (k n : Nat) : List C2 := (List.range n).map fun i => ⟨decide (((k + 2 * i : Nat) : Int).tmod 3 = 0), ((k + 2 * i + 1 : Nat) : Int)⟩
theorem markCut_length (k n : Nat) : (markCut k n).length = n := by simp [markCut]
theorem markCut_at {k n i : Nat} (h : i < n) : (markCut k n).getD i C2.zero = ⟨decide (((k + 2 * i : Nat) : Int).tmod 3 = 0), ((k + 2 * i + 1 : Nat) : Int)⟩ := by simp [markCut, List.getD, h]

set_option maxHeartbeats 800000 in
theorem MarkCutS_any (lo hi : Nat) (v : Value) (xs : List C2) (k : Nat) (w : World) (r : CutIn lo hi w v xs) (hk1 : k ≤ 100000000) :
    Calls Try.prog 30 #[v, .int .i64 k] w fun e w' => e = .returned (.int .i64 ((k + 2 * xs.length : Nat) : Int)) ∧ CutIn lo hi w' v (markCut k xs.length) ∧ Within lo hi w w' := by
  obtain ⟨a1, c1, rfl⟩ := r.form
  have R := Lib.hid r
  have hl := r.1
  clear r
  go_enter Try.func30, Try.ntmps30
  go_wp2_with fail
  go_loopw [1, 5] (fun q i wr => ∃ (m : Nat) (ys : List C2), m ≤ xs.length ∧ i = .int .i64 m ∧ q = .int .i64 ((k + 2 * m : Nat) : Int) ∧ Hid (UpCut m (markCut k xs.length) ys) ∧ Hid (CutIn lo hi wr (.slice a1 xs.length c1) ys) ∧ Within lo hi w wr) (fun _ i _ => xs.length - (intOf i).toNat)
  case atStart => exact ⟨0, xs, Nat.zero_le _, rfl, rfl, ⟨by simp [markCut], fun i hi => by omega⟩, R.out, Within.refl _ _ _⟩
  case round =>
    obtain ⟨m, ys, hm, rfl, rfl, hup, hin, hbel⟩ := hrel
    by_cases hlt : m < xs.length
    · have hyl : ys.length = xs.length := by have := hup.out.1; rw [markCut_length] at this; exact this
      obtain ⟨g, rfl, hg, hg1, ⟨e0, e1⟩, f0, f1⟩ := hin.out.at (Below.refl _ _) (i := m) (by omega)
      have HN := Lib.hid (hin.out.set m (by omega) (decide (((k + 2 * m : Nat) : Int).tmod 3 = 0)) ((k + 2 * m + 1 : Nat) : Int))
      have HU := Lib.hid (hup.out.set (c := ⟨decide (((k + 2 * m : Nat) : Int).tmod 3 = 0), ((k + 2 * m + 1 : Nat) : Int)⟩) (by rw [markCut_length]; exact hlt) (markCut_at hlt).symm)
      have HB := Lib.hid (Within.setCell (Within.setCell hbel (p := ⟨g, m * 2, none⟩) hg hg1 (.bool (decide (((k + 2 * m : Nat) : Int).tmod 3 = 0)))) (p := ⟨g, m * 2 + 1, none⟩) hg hg1 (.int .i64 ((k + 2 * m + 1 : Nat) : Int)))
      generalize ys.getD m C2.zero = y at e0 e1
      clear hbel hup hin
      go_wp2_with fail
      go_roundw
      case rel => exact ⟨m + 1, _, by omega, by go_num, by go_num, HU, HN, HB.out⟩
      case measure => simp [intOf] <;> omega
    · obtain rfl : m = xs.length := by omega
      go_wp2_with fail
      go_ret
      refine ⟨rfl, ?_, hbel⟩
      have h1 := hup.out
      have h2 : ys = markCut k xs.length := UpCut.all (by rw [markCut_length]; exact h1)
      rw [← h2]; exact hin.out

set_option maxHeartbeats 800000 in
theorem HeldCutS_any (lo hi : Nat) (v : Value) (n k : Nat) (w : World) (r : CutIn lo hi w v (markCut k n)) (hk1 : k ≤ 100000000) :
    Calls Try.prog 31 #[v, .int .i64 k] w fun e w' => e = .returned (.int .i64 ((k + 2 * n : Nat) : Int)) ∧ w' = w := by
  have hl := r.1
  have hf := r.form
  rw [markCut_length] at hl hf
  obtain ⟨a1, c1, rfl⟩ := hf
  have R := Lib.hid r
  clear r
  go_enter Try.func31, Try.ntmps31
  go_wp2_with fail
  go_loop [1, 5] (fun q i => ∃ m : Nat, m ≤ n ∧ i = .int .i64 m ∧ q = .int .i64 ((k + 2 * m : Nat) : Int)) (fun _ i => n - (intOf i).toNat)
  case atStart => exact ⟨0, Nat.zero_le _, rfl, rfl⟩
  case round =>
    obtain ⟨m, hm, rfl, rfl⟩ := hrel
    by_cases hlt : m < n
    · obtain ⟨g, rfl, _, _, ⟨e0, e1⟩, _⟩ := R.out.at (Below.refl _ _) (i := m) (by rw [markCut_length]; exact hlt)
      rw [markCut_at hlt] at e0 e1
      simp only at e0 e1
      go_wp2_with fail
      any_goals (first | (exfalso; rename_i hz hw; by_cases z : ((k : Int) + 2 * m) % 3 = 0 <;> simp [z] at hz; done) | skip)
      go_round
      case rel => exact ⟨m + 1, by omega, by go_num, by go_num⟩
      case measure => simp [intOf] <;> omega
    · obtain rfl : m = n := by omega
      go_wp2_with fail
      go_ret
      exact ⟨rfl, rfl⟩

end Go.Proofs.Ytakjgnkkeefgbaa
