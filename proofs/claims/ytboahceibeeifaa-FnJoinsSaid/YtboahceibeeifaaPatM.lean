/- Rows of patchs: marked, and held against the marks. -/
import Derived.Test.YtboahceibeeifaaPatT
import Derived.Test.YtboahceibeeifaaBlkM

set_option linter.unusedSimpArgs false
set_option linter.unusedVariables false
namespace Go.Proofs.Ytboahceibeeifaa
open Go.ChangeShapes Go.WideShapes Go.ChangeAt Go.RowKit

theorem PatIn.within {lo hi l2 h2 : Nat} {u w : World} {v : Value} {xs : List P5} (r : PatIn l2 h2 u v xs) (h : Within lo hi u w) (ho : h2 ≤ lo ∨ hi ≤ l2) (hh : h2 ≤ u.heap.size) : PatIn l2 h2 w v xs := by
  obtain ⟨hl, r | ⟨g, cap, hv, hcp, hg, hlt, hc⟩⟩ := r
  · exact ⟨hl, .inl r⟩
  · refine ⟨hl, .inr ⟨g, cap, hv, hcp, hg, hlt, fun i hi => ?_⟩⟩
    have hb : w.heap[g]? = u.heap[g]? := h.block g (by omega) (by omega)
    obtain ⟨⟨e0, e1, e2, e3, e4⟩, f0, f1, f2, f3, f4⟩ := hc i hi
    exact ⟨⟨(World.cell?_of_block (w := u) hb).trans e0, (World.cell?_of_block (w := u) hb).trans e1, (World.cell?_of_block (w := u) hb).trans e2, (World.cell?_of_block (w := u) hb).trans e3, (World.cell?_of_block (w := u) hb).trans e4⟩,
      (World.frozen?_of_block (w := u) hb).trans f0, (World.frozen?_of_block (w := u) hb).trans f1, (World.frozen?_of_block (w := u) hb).trans f2, (World.frozen?_of_block (w := u) hb).trans f3, (World.frozen?_of_block (w := u) hb).trans f4⟩

/-- The marks from k on. -/
def markPat (k n : Nat) : List P5 := (List.range n).map fun i => ⟨((k + 5 * i : Nat) : Int), ((k + 5 * i + 1 : Nat) : Int), ((k + 5 * i + 2 : Nat) : Int), ((k + 5 * i + 3 : Nat) : Int), ((k + 5 * i + 4 : Nat) : Int)⟩
theorem markPat_length (k n : Nat) : (markPat k n).length = n := by simp [markPat]
theorem markPat_at {k n i : Nat} (h : i < n) : (markPat k n).getD i P5.zero = ⟨((k + 5 * i : Nat) : Int), ((k + 5 * i + 1 : Nat) : Int), ((k + 5 * i + 2 : Nat) : Int), ((k + 5 * i + 3 : Nat) : Int), ((k + 5 * i + 4 : Nat) : Int)⟩ := by simp [markPat, List.getD, h]

set_option maxHeartbeats 800000 in
theorem MarkPatS_any (lo hi : Nat) (v : Value) (xs : List P5) (k : Nat) (w : World) (r : PatIn lo hi w v xs) (hk1 : k ≤ 100000000) :
    Calls Try.prog 50 #[v, .int .i64 k] w fun e w' => e = .returned (.int .i64 ((k + 5 * xs.length : Nat) : Int)) ∧ PatIn lo hi w' v (markPat k xs.length) ∧ Within lo hi w w' := by
  obtain ⟨a1, c1, rfl⟩ := r.form
  have R := Lib.hid r
  have hl := r.1
  clear r
  go_enter Try.func50, Try.ntmps50
  go_wp2_with fail
  go_loopw [1, 5] (fun q i wr => ∃ (m : Nat) (ys : List P5), m ≤ xs.length ∧ i = .int .i64 m ∧ q = .int .i64 ((k + 5 * m : Nat) : Int) ∧ Hid (UpPat m (markPat k xs.length) ys) ∧ Hid (PatIn lo hi wr (.slice a1 xs.length c1) ys) ∧ Within lo hi w wr) (fun _ i _ => xs.length - (intOf i).toNat)
  case atStart => exact ⟨0, xs, Nat.zero_le _, rfl, rfl, ⟨by simp [markPat], fun i hi => by omega⟩, R.out, Within.refl _ _ _⟩
  case round =>
    obtain ⟨m, ys, hm, rfl, rfl, hup, hin, hbel⟩ := hrel
    by_cases hlt : m < xs.length
    · have hyl : ys.length = xs.length := by have := hup.out.1; rw [markPat_length] at this; exact this
      obtain ⟨g, rfl, hg, hg1, ⟨e0, e1, e2, e3, e4⟩, f0, f1, f2, f3, f4⟩ := hin.out.at (Below.refl _ _) (i := m) (by omega)
      have HN := Lib.hid (hin.out.set m (by omega) ((k + 5 * m : Nat) : Int) ((k + 5 * m + 1 : Nat) : Int) ((k + 5 * m + 2 : Nat) : Int) ((k + 5 * m + 3 : Nat) : Int) ((k + 5 * m + 4 : Nat) : Int))
      have HU := Lib.hid (hup.out.set (c := ⟨((k + 5 * m : Nat) : Int), ((k + 5 * m + 1 : Nat) : Int), ((k + 5 * m + 2 : Nat) : Int), ((k + 5 * m + 3 : Nat) : Int), ((k + 5 * m + 4 : Nat) : Int)⟩) (by rw [markPat_length]; exact hlt) (markPat_at hlt).symm)
      have HB := Lib.hid (Within.setCell (Within.setCell (Within.setCell (Within.setCell (Within.setCell hbel (p := ⟨g, m * 5, none⟩) hg hg1 (.int .i64 ((k + 5 * m : Nat) : Int))) (p := ⟨g, m * 5 + 1, none⟩) hg hg1 (.int .i64 ((k + 5 * m + 1 : Nat) : Int))) (p := ⟨g, m * 5 + 2, none⟩) hg hg1 (.int .i64 ((k + 5 * m + 2 : Nat) : Int))) (p := ⟨g, m * 5 + 3, none⟩) hg hg1 (.int .i64 ((k + 5 * m + 3 : Nat) : Int))) (p := ⟨g, m * 5 + 4, none⟩) hg hg1 (.int .i64 ((k + 5 * m + 4 : Nat) : Int)))
      generalize ys.getD m P5.zero = y at e0 e1 e2 e3 e4
      clear hbel hup hin
      go_wp2_with fail
      go_roundw
      case rel => exact ⟨m + 1, _, by omega, by go_num, by go_num, HU, HN, HB.out⟩
      case measure => simp [intOf] <;> omega
    · obtain rfl : m = xs.length := by omega
      go_wp2_with fail
      go_ret
      refine ⟨rfl, ?_, hbel⟩
      have h1 := hup.out
      have h2 : ys = markPat k xs.length := UpPat.all (by rw [markPat_length]; exact h1)
      rw [← h2]; exact hin.out

end Go.Proofs.Ytboahceibeeifaa
