/- Cells: a drawn cell is valid. -/
import Derived.Test.YtfidnhhlcdbaeaaCellPs
import Derived.Test.YtfidnhhlcdbaeaaDrawN
namespace Go.Proofs.Ytfidnhhlcdbaeaa
open Go.ChangeShapes Go.WideShapes Go.ChangeAt Go.RowKit

theorem ok_zero : OkC 0 0 0 := by unfold OkC; omega
theorem sp_valid (s a b : Int) : OkC (spS s a b) (spA s a b) (spB s a b) := by
  by_cases h : a = b
  · subst h
    obtain ⟨e1, e2, e3⟩ := sp_same s a
    rw [e1, e2, e3]
    unfold wh OkC
    split <;> omega
  · by_cases k : OkC s a b
    · obtain ⟨e1, e2, e3⟩ := sp_ok h k
      rw [e1, e2, e3]; exact k
    · obtain ⟨e1, e2, e3⟩ := sp_no h k
      rw [e1, e2, e3]; exact ok_zero
/-- A valid cell is what SplitCell makes of its parts. -/
theorem sp_self {s a b : Int} (k : OkC s a b) : spS s a b = s ∧ spA s a b = a ∧ spB s a b = b := by
  by_cases h : a = b
  · subst h
    obtain ⟨e1, e2, e3⟩ := sp_same s a
    rw [e1, e2, e3]
    unfold OkC at k
    exact ⟨by omega, wh_yes (by omega), wh_yes (by omega)⟩
  · exact sp_ok h k

/-- A valid cell is handed back; the cursor goes on. -/
def DrawnC (b : Nat) (a : Option Addr) (len cap : Nat) (w : World) (e : Ending) (w' : World) : Prop :=
  ∃ s x y : Int, OkC s x y ∧ e = .returned (.agg #[.int .i64 s, .int .i64 x, .int .i64 y]) ∧ Cur w' b a len cap ∧ But b w w'

theorem CellDraw_any (b : Nat) (a : Option Addr) (len cap : Nat) (w : World) (hcur : Cur w b a len cap) :
    Calls Try.prog 51 #[.pointer (some ⟨b, 0, none⟩)] w (DrawnC b a len cap w) := by
  have HC := Lib.hid hcur
  have hlt := hcur.lt
  clear hcur
  go_enter Try.func51, Try.ntmps51
  go_wp2_with fail
  refine (Below_any b a len cap 3 _ (HC.out.alloc _) (by omega) (by omega)).mono ?_
  rintro e w1 ⟨x, hx, rfl, hc1, hb1⟩
  go_wp2_with fail
  refine (Below_any b a len cap 3 _ hc1 (by omega) (by omega)).mono ?_
  rintro e w2 ⟨y, hy, rfl, hc2, hb2⟩
  go_wp2_with fail
  refine (Below_any b a len cap 3 _ hc2 (by omega) (by omega)).mono ?_
  rintro e w3 ⟨z, hz, rfl, hc3, hb3⟩
  go_wp2_with fail
  refine (SpecSplit_any _ _ _ _).mono ?_
  rintro e w4 ⟨rfl, hb4⟩
  have hv := sp_valid x y z
  generalize spS x y z = s' at hv ⊢
  generalize spA x y z = x' at hv ⊢
  generalize spB x y z = y' at hv ⊢
  have hbb := ((hb1.trans hb2).trans hb3).trans (But.of_below hb4)
  have hne : w.heap.size ≠ b := by omega
  have cc : ∀ i : Nat, w4.cell? ⟨w.heap.size, i, none⟩ = (w.alloc (.cells #[.int .i64 0, .int .i64 0, .int .i64 0] 29)).cell? ⟨w.heap.size, i, none⟩ := fun i => hbb.cell (p := ⟨w.heap.size, i, none⟩) (by simp) hne
  have ff : ∀ i : Nat, w4.frozen? ⟨w.heap.size, i, none⟩ = (w.alloc (.cells #[.int .i64 0, .int .i64 0, .int .i64 0] 29)).frozen? ⟨w.heap.size, i, none⟩ := fun i => hbb.frozen (p := ⟨w.heap.size, i, none⟩) (by simp) hne
  have f0 : w4.cell? ⟨w.heap.size, 0, none⟩ = some (.int .i64 0) := (cc 0).trans (by simp)
  have f1 : w4.cell? ⟨w.heap.size, 1, none⟩ = some (.int .i64 0) := (cc 1).trans (by simp)
  have f2 : w4.cell? ⟨w.heap.size, 2, none⟩ = some (.int .i64 0) := (cc 2).trans (by simp)
  have g0 : w4.frozen? ⟨w.heap.size, 0, none⟩ = false := (ff 0).trans (by simp)
  have g1 : w4.frozen? ⟨w.heap.size, 1, none⟩ = false := (ff 1).trans (by simp)
  have g2 : w4.frozen? ⟨w.heap.size, 2, none⟩ = false := (ff 2).trans (by simp)
  have hb5 : But b w w4 := ((But.refl _ _).alloc _).trans hbb
  have hc4 := hc3.kept hb4
  clear cc ff hbb hb1 hb2 hb3 hb4 hc1 hc2 hc3
  go_wp2_with fail
  refine bodyPost_ret (v := .agg #[.int .i64 s', .int .i64 x', .int .i64 y']) (by simp [results, Try.results51, go_sem, f0, f1, f2]) rfl ⟨s', x', y', hv, rfl, ?_, ?_⟩
  · refine hc4.below (B := w.heap.size) ?_ hlt
    refine Below.setCell (Below.setCell (Below.setCell (Below.refl _ _) ?_ _) ?_ _) ?_ _ <;> exact Nat.le_refl _
  · exact But.setCell (But.setCell (But.setCell hb5 (.inr (Nat.le_refl _)) _) (.inr (Nat.le_refl _)) _) (.inr (Nat.le_refl _)) _

end Go.Proofs.Ytfidnhhlcdbaeaa
