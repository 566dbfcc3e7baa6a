/- Cells: the model's SplitCell. -/
import Derived.Test.YtfidnhhlcdbaeaaCellWs
namespace Go.Proofs.Ytfidnhhlcdbaeaa
open Go.ChangeShapes Go.WideShapes Go.ChangeAt Go.RowKit

/-- The parts of SplitCell's answer. -/
def spS (s a b : Int) : Int := if a = b then 0 else if OkC s a b then s else 0
def spA (s a b : Int) : Int := if a = b then wh a else if OkC s a b then a else 0
def spB (s a b : Int) : Int := if a = b then wh a else if OkC s a b then b else 0

theorem sp_same (s a : Int) : spS s a a = 0 ∧ spA s a a = wh a ∧ spB s a a = wh a := ⟨if_pos rfl, if_pos rfl, if_pos rfl⟩
theorem sp_ok {s a b : Int} (h : ¬ a = b) (k : OkC s a b) : spS s a b = s ∧ spA s a b = a ∧ spB s a b = b := by
  unfold spS spA spB
  simp only [if_neg h, if_pos k, and_self]
theorem sp_no {s a b : Int} (h : ¬ a = b) (k : ¬ OkC s a b) : spS s a b = 0 ∧ spA s a b = 0 ∧ spB s a b = 0 := by
  unfold spS spA spB
  simp only [if_neg h, if_neg k, and_self]

theorem SpecSplit_any (s a b : Int) (w : World) :
    Calls Try.prog 60 #[.int .i64 s, .int .i64 a, .int .i64 b] w fun e w' => e = .returned (.agg #[.int .i64 (spS s a b), .int .i64 (spA s a b), .int .i64 (spB s a b)]) ∧ Below w.heap.size w w' := by
  by_cases h : a = b
  · subst h
    obtain ⟨e1, e2, e3⟩ := sp_same s a
    rw [e1, e2, e3]
    clear e1 e2 e3
    go_enter Try.func60, Try.ntmps60
    go_wp2_with (refine (SpecWhole_any _ _).mono ?_; rintro e w' ⟨rfl, rfl⟩)
    exact bodyPost_ret (v := .agg #[.int .i64 0, .int .i64 (wh a), .int .i64 (wh a)]) (by simp [results, Try.results60, go_sem]) rfl ⟨rfl, ((Below.refl _ _).alloc (Nat.le_refl _) _).alloc (by simp) _⟩
  · by_cases k : OkC s a b
    · obtain ⟨e1, e2, e3⟩ := sp_ok h k
      rw [e1, e2, e3]
      clear e1 e2 e3
      have k' := Lib.hid (decide_eq_true k)
      clear k
      go_enter Try.func60, Try.ntmps60
      go_wp2_with (refine (SpecOk_any _ _ _ _).mono ?_; rw [k'.out]; rintro e w' ⟨rfl, rfl⟩)
      exact bodyPost_ret (v := .agg #[.int .i64 s, .int .i64 a, .int .i64 b]) (by simp [results, Try.results60, go_sem]) rfl ⟨rfl, (((Below.refl _ _).alloc (Nat.le_refl _) _).alloc (by simp) _).alloc (by simp; omega) _⟩
    · obtain ⟨e1, e2, e3⟩ := sp_no h k
      rw [e1, e2, e3]
      clear e1 e2 e3
      have k' := Lib.hid (decide_eq_false k)
      clear k
      go_enter Try.func60, Try.ntmps60
      go_wp2_with (refine (SpecOk_any _ _ _ _).mono ?_; rw [k'.out]; rintro e w' ⟨rfl, rfl⟩)
      exact bodyPost_ret (v := .agg #[.int .i64 0, .int .i64 0, .int .i64 0]) (by simp [results, Try.results60, go_sem]) rfl ⟨rfl, (((Below.refl _ _).alloc (Nat.le_refl _) _).alloc (by simp) _).alloc (by simp; omega) _⟩

end Go.Proofs.Ytfidnhhlcdbaeaa
