/- Rows of joins: marked, and held against the marks. -/
import Derived.Test.YtboahceibeeifaaJnT
import Derived.Test.YtboahceibeeifaaBlkM
set_option linter.unusedSimpArgs false
set_option linter.unusedVariables false
namespace Go.Proofs.Ytboahceibeeifaa
open Go.ChangeShapes Go.WideShapes Go.ChangeAt Go.RowKit

theorem JnIn.within {lo hi l2 h2 : Nat} {u w : World} {v : Value} {xs : List J3} (r : JnIn l2 h2 u v xs) (h : Within lo hi u w) (ho : h2 ≤ lo ∨ hi ≤ l2) (hh : h2 ≤ u.heap.size) : JnIn l2 h2 w v xs := by
  obtain ⟨hl, r | ⟨g, cap, hv, hcp, hg, hlt, hc⟩⟩ := r
  · exact ⟨hl, .inl r⟩
  · refine ⟨hl, .inr ⟨g, cap, hv, hcp, hg, hlt, fun i hi => ?_⟩⟩
    have hb : w.heap[g]? = u.heap[g]? := h.block g (by omega) (by omega)
    obtain ⟨⟨e0, e1, e2⟩, f0, f1, f2⟩ := hc i hi
    exact ⟨⟨(World.cell?_of_block (w := u) hb).trans e0, (World.cell?_of_block (w := u) hb).trans e1, (World.cell?_of_block (w := u) hb).trans e2⟩,
      (World.frozen?_of_block (w := u) hb).trans f0, (World.frozen?_of_block (w := u) hb).trans f1, (World.frozen?_of_block (w := u) hb).trans f2⟩

/-- The marks from k on. -/
def markJn (k n : Nat) : List J3 := (List.range n).map fun i => ⟨decide ((k : Int).tmod 3 = 0), ((k + 3 * i + 1 : Nat) : Int), ((k + 3 * i + 2 : Nat) : Int)⟩
theorem markJn_length (k n : Nat) : (markJn k n).length = n := by simp [markJn]
theorem markJn_at {k n i : Nat} (h : i < n) : (markJn k n).getD i J3.zero = ⟨decide ((k : Int).tmod 3 = 0), ((k + 3 * i + 1 : Nat) : Int), ((k + 3 * i + 2 : Nat) : Int)⟩ := by simp [markJn, List.getD, h]

set_option maxHeartbeats 800000 in
theorem MarkJnS_any (lo hi : Nat) (v : Value) (xs : List J3) (k : Nat) (w : World) (r : JnIn lo hi w v xs) (hk1 : k ≤ 100000000) :
    Calls Try.prog 23 #[v, .int .i64 k] w fun e w' => e = .returned (.int .i64 ((k + 3 * xs.length : Nat) : Int)) ∧ JnIn lo hi w' v (markJn k xs.length) ∧ Within lo hi w w' := by
  obtain ⟨a1, c1, rfl⟩ := r.form
  have R := Lib.hid r
  have hl := r.1
  clear r
  go_enter Try.func23, Try.ntmps23
  go_wp2_with fail
  go_loopw [1, 5] (fun q i wr => ∃ (m : Nat) (ys : List J3), m ≤ xs.length ∧ i = .int .i64 m ∧ q = .int .i64 ((k + 3 * m : Nat) : Int) ∧ Hid (UpJn m (markJn k xs.length) ys) ∧ Hid (JnIn lo hi wr (.slice a1 xs.length c1) ys) ∧ Within lo hi w wr) (fun _ i _ => xs.length - (intOf i).toNat)
  case atStart => exact ⟨0, xs, Nat.zero_le _, rfl, rfl, ⟨by simp [markJn], fun i hi => by omega⟩, R.out, Within.refl _ _ _⟩
  case round =>
    obtain ⟨m, ys, hm, rfl, rfl, hup, hin, hbel⟩ := hrel
    by_cases hlt : m < xs.length
    · have hyl : ys.length = xs.length := by have := hup.out.1; rw [markJn_length] at this; exact this
      obtain ⟨g, rfl, hg, hg1, ⟨e0, e1, e2⟩, f0, f1, f2⟩ := hin.out.at (Below.refl _ _) (i := m) (by omega)
      have HN := Lib.hid (hin.out.set m (by omega) (decide ((k : Int).tmod 3 = 0)) ((k + 3 * m + 1 : Nat) : Int) ((k + 3 * m + 2 : Nat) : Int))
      have HU := Lib.hid (hup.out.set (c := ⟨decide ((k : Int).tmod 3 = 0), ((k + 3 * m + 1 : Nat) : Int), ((k + 3 * m + 2 : Nat) : Int)⟩) (by rw [markJn_length]; exact hlt) (markJn_at hlt).symm)
      have HB := Lib.hid (Within.setCell (Within.setCell (Within.setCell hbel (p := ⟨g, m * 3, none⟩) hg hg1 (.bool (decide ((k : Int).tmod 3 = 0)))) (p := ⟨g, m * 3 + 1, none⟩) hg hg1 (.int .i64 ((k + 3 * m + 1 : Nat) : Int))) (p := ⟨g, m * 3 + 2, none⟩) hg hg1 (.int .i64 ((k + 3 * m + 2 : Nat) : Int)))
      generalize ys.getD m J3.zero = y at e0 e1 e2
      clear hbel hup hin
      go_wp2_with fail
      go_roundw
      case rel => exact ⟨m + 1, _, by omega, by go_num, by go_num, HU, HN, HB.out⟩
      case measure => simp [intOf] <;> omega
    · obtain rfl : m = xs.length := by omega
      go_wp2_with fail
      go_ret
      refine ⟨rfl, ?_, hbel⟩
      have h1 := hup.out
      have h2 : ys = markJn k xs.length := UpJn.all (by rw [markJn_length]; exact h1)
      rw [← h2]; exact hin.out

set_option maxHeartbeats 800000 in
theorem HeldJnS_any (lo hi : Nat) (v : Value) (n k : Nat) (w : World) (r : JnIn lo hi w v (markJn k n)) (hk1 : k ≤ 100000000) :
    Calls Try.prog 24 #[v, .int .i64 k] w fun e w' => e = .returned (.int .i64 ((k + 3 * n : Nat) : Int)) ∧ w' = w := by
  have hl := r.1
  have hf := r.form
  rw [markJn_length] at hl hf
  obtain ⟨a1, c1, rfl⟩ := hf
  have R := Lib.hid r
  clear r
  go_enter Try.func24, Try.ntmps24
  go_wp2_with fail
  go_loop [1, 5] (fun q i => ∃ m : Nat, m ≤ n ∧ i = .int .i64 m ∧ q = .int .i64 ((k + 3 * m : Nat) : Int)) (fun _ i => n - (intOf i).toNat)
  case atStart => exact ⟨0, Nat.zero_le _, rfl, rfl⟩
  case round =>
    obtain ⟨m, hm, rfl, rfl⟩ := hrel
    by_cases hlt : m < n
    · obtain ⟨g, rfl, _, _, ⟨e0, e1, e2⟩, _⟩ := R.out.at (Below.refl _ _) (i := m) (by rw [markJn_length]; exact hlt)
      rw [markJn_at hlt] at e0 e1 e2
      simp only at e0 e1 e2
      go_wp2_with fail
      any_goals (first | (exfalso; rename_i hz hw; by_cases z : (k : Int) % 3 = 0 <;> simp [z] at hz; done) | skip)
      go_round
      case rel => exact ⟨m + 1, by omega, by go_num, by go_num⟩
      case measure => simp [intOf] <;> omega
    · obtain rfl : m = n := by omega
      go_wp2_with fail
      go_ret
      exact ⟨rfl, rfl⟩

end Go.Proofs.Ytboahceibeeifaa
