/- Cells: the model's and the program's CellOk answer alike. Cells: the model's WholeCell. Cells: the model's SplitCell. Cells: taken from the law's own type, and compared. Cells: compared by their fields. Cells by value, opened and shut. -/
import Derived.Test.YtndffjphdlncpaaRows
import Derived.WalkKit
import Derived.ProofKit
import Derived.OpenShut
import Derived.WalkSmall
import Derived.BigQuiet
import Derived.Deep.QuietTactic
import Derived.Outline
import Derived.IntWalk
import Derived.Lib.Hide
import Derived.ShutString
import Derived.Lib.SmallJoins

namespace Go.Proofs.Ytndffjphdlncpaa
open Go.ChangeShapes Go.WideShapes Go.ChangeAt Go.RowKit

/-- A cell is valid: what is asked of its three numbers. -/
def OkC (s a b : Int) : Prop := (0 ≤ s ∧ s ≤ 2) ∧ (0 ≤ a ∧ a ≤ 5) ∧ (0 ≤ b ∧ b ≤ 5) ∧ (s = 0 ↔ a = b)
instance (s a b : Int) : Decidable (OkC s a b) := by unfold OkC; exact inferInstance

theorem ret_bool {a b : Bool} (h : a = b) : Ending.returned (.bool a) = .returned (.bool b) := by rw [h]

theorem In_yes (x lo hi : Int) (w : World) (h0 : lo ≤ x) (h1 : x ≤ hi) :
    Calls Try.prog 50 #[.int .i64 x, .int .i64 lo, .int .i64 hi] w fun e w' => e = .returned (.bool true) ∧ w' = w := by
  go_enter Try.func50, Try.ntmps50
  go_wp2
  go_ret
  exact ⟨rfl, rfl⟩

theorem In_no (x lo hi : Int) (w : World) (h : x < lo ∨ hi < x) :
    Calls Try.prog 50 #[.int .i64 x, .int .i64 lo, .int .i64 hi] w fun e w' => e = .returned (.bool false) ∧ w' = w := by
  by_cases h0 : x < lo
  · clear h
    go_enter Try.func50, Try.ntmps50
    go_wp2
    go_ret
    exact ⟨rfl, rfl⟩
  · have h1 : ¬ x ≤ hi := by omega
    clear h
    go_enter Try.func50, Try.ntmps50
    go_wp2
    go_ret
    exact ⟨ret_bool (by simp), rfl⟩

theorem okB {s a b : Int} (s0 : 0 ≤ s) (s1 : s ≤ 2) (a0 : 0 ≤ a) (a1 : a ≤ 5) (b0 : 0 ≤ b) (b1 : b ≤ 5) : decide (OkC s a b) = ((s == 0) == (a == b)) := by
  by_cases h4 : s = 0
  all_goals
    by_cases h5 : a = b
    all_goals
      first
      | (rw [decide_eq_true (show OkC s a b by unfold OkC; omega), beq_eq_false_iff_ne.2 h4, beq_eq_false_iff_ne.2 h5]; rfl)
      | (rw [decide_eq_true (show OkC s a b by unfold OkC; omega)]; simp [h4, h5])
      | (rw [decide_eq_false (show ¬ OkC s a b by unfold OkC; omega)]; simp [h4, h5])

theorem SpecOk_any (s a b : Int) (w : World) :
    Calls Try.prog 51 #[.agg #[.int .i64 s, .int .i64 a, .int .i64 b]] w fun e w' => e = .returned (.bool (decide (OkC s a b))) ∧ w' = w.alloc (.cells #[.int .i64 s, .int .i64 a, .int .i64 b] 41) := by
  by_cases h1 : 0 ≤ s ∧ s ≤ 2
  · obtain ⟨s0, s1⟩ := h1
    by_cases h2 : 0 ≤ a ∧ a ≤ 5
    · obtain ⟨a0, a1⟩ := h2
      by_cases h3 : 0 ≤ b ∧ b ≤ 5
      · obtain ⟨b0, b1⟩ := h3
        go_enter Try.func51, Try.ntmps51
        go_wp2_with (refine (In_yes _ _ _ _ (by assumption) (by assumption)).mono ?_; rintro e w' ⟨rfl, rfl⟩)
        go_ret
        exact ⟨ret_bool (okB s0 s1 a0 a1 b0 b1).symm, rfl⟩
      · have h3' : b < 0 ∨ 5 < b := by omega
        clear h3
        go_enter Try.func51, Try.ntmps51
        go_wp2_with (first | (refine (In_yes _ _ _ _ (by assumption) (by assumption)).mono ?_; rintro e w' ⟨rfl, rfl⟩) | (refine (In_no _ _ _ _ (by assumption)).mono ?_; rintro e w' ⟨rfl, rfl⟩))
        go_ret
        exact ⟨ret_bool (decide_eq_false (by unfold OkC; omega)).symm, rfl⟩
    · have h2' : a < 0 ∨ 5 < a := by omega
      clear h2
      go_enter Try.func51, Try.ntmps51
      go_wp2_with (first | (refine (In_yes _ _ _ _ (by assumption) (by assumption)).mono ?_; rintro e w' ⟨rfl, rfl⟩) | (refine (In_no _ _ _ _ (by assumption)).mono ?_; rintro e w' ⟨rfl, rfl⟩))
      go_ret
      exact ⟨ret_bool (decide_eq_false (by unfold OkC; omega)).symm, rfl⟩
  · have h1' : s < 0 ∨ 2 < s := by omega
    clear h1
    go_enter Try.func51, Try.ntmps51
    go_wp2_with (first | (refine (In_yes _ _ _ _ (by assumption) (by assumption)).mono ?_; rintro e w' ⟨rfl, rfl⟩) | (refine (In_no _ _ _ _ (by assumption)).mono ?_; rintro e w' ⟨rfl, rfl⟩))
    go_ret
    exact ⟨ret_bool (decide_eq_false (by unfold OkC; omega)).symm, rfl⟩

end Go.Proofs.Ytndffjphdlncpaa

namespace Go.Proofs.Ytndffjphdlncpaa
open Go.ChangeShapes Go.WideShapes Go.ChangeAt Go.RowKit

/-- The color of a whole cell. -/
def wh (a : Int) : Int := if 0 ≤ a ∧ a ≤ 5 then a else 0
theorem wh_yes {a : Int} (h : 0 ≤ a ∧ a ≤ 5) : wh a = a := if_pos h
theorem wh_no {a : Int} (h : ¬ (0 ≤ a ∧ a ≤ 5)) : wh a = 0 := if_neg h

theorem SpecWhole_any (a : Int) (w : World) :
    Calls Try.prog 72 #[.int .i64 a] w fun e w' => e = .returned (.agg #[.int .i64 0, .int .i64 (wh a), .int .i64 (wh a)]) ∧ w' = w.alloc (.cells #[.int .i64 0, .int .i64 (wh a), .int .i64 (wh a)] 41) := by
  by_cases h : 0 ≤ a ∧ a ≤ 5
  · rw [wh_yes h]
    obtain ⟨a0, a1⟩ := h
    go_enter Try.func72, Try.ntmps72
    go_wp2_with (refine (In_yes _ _ _ _ (by assumption) (by assumption)).mono ?_; rintro e w' ⟨rfl, rfl⟩)
    exact bodyPost_ret (v := .agg #[.int .i64 0, .int .i64 a, .int .i64 a]) (by simp [results, Try.results72, go_sem]) rfl ⟨rfl, rfl⟩
  · rw [wh_no h]
    have h' : a < 0 ∨ 5 < a := by omega
    clear h
    go_enter Try.func72, Try.ntmps72
    go_wp2_with (refine (In_no _ _ _ _ (by assumption)).mono ?_; rintro e w' ⟨rfl, rfl⟩)
    exact bodyPost_ret (v := .agg #[.int .i64 0, .int .i64 0, .int .i64 0]) (by simp [results, Try.results72, go_sem]) rfl ⟨rfl, rfl⟩

end Go.Proofs.Ytndffjphdlncpaa

namespace Go.Proofs.Ytndffjphdlncpaa
open Go.ChangeShapes Go.WideShapes Go.ChangeAt Go.RowKit

/-- The parts of SplitCell's answer. -/
def spS (s a b : Int) : Int := if a = b then 0 else if OkC s a b then s else 0
def spA (s a b : Int) : Int := if a = b then wh a else if OkC s a b then a else 0
def spB (s a b : Int) : Int := if a = b then wh a else if OkC s a b then b else 0

theorem sp_same (s a : Int) : spS s a a = 0 ∧ spA s a a = wh a ∧ spB s a a = wh a := ⟨if_pos rfl, if_pos rfl, if_pos rfl⟩
theorem sp_ok {s a b : Int} (h : ¬ a = b) (k : OkC s a b) : spS s a b = s ∧ spA s a b = a ∧ spB s a b = b := by
  unfold spS spA spB
  simp only [if_neg h, if_pos k, and_self]
theorem sp_no {s a b : Int} (h : ¬ a = b) (k : ¬ OkC s a b) : spS s a b = 0 ∧ spA s a b = 0 ∧ spB s a b = 0 := by
  unfold spS spA spB
  simp only [if_neg h, if_neg k, and_self]

theorem SpecSplit_any (s a b : Int) (w : World) :
    Calls Try.prog 57 #[.int .i64 s, .int .i64 a, .int .i64 b] w fun e w' => e = .returned (.agg #[.int .i64 (spS s a b), .int .i64 (spA s a b), .int .i64 (spB s a b)]) ∧ Below w.heap.size w w' := by
  by_cases h : a = b
  · subst h
    obtain ⟨e1, e2, e3⟩ := sp_same s a
    rw [e1, e2, e3]
    clear e1 e2 e3
    go_enter Try.func57, Try.ntmps57
    go_wp2_with (refine (SpecWhole_any _ _).mono ?_; rintro e w' ⟨rfl, rfl⟩)
    exact bodyPost_ret (v := .agg #[.int .i64 0, .int .i64 (wh a), .int .i64 (wh a)]) (by simp [results, Try.results57, go_sem]) rfl ⟨rfl, ((Below.refl _ _).alloc (Nat.le_refl _) _).alloc (by simp) _⟩
  · by_cases k : OkC s a b
    · obtain ⟨e1, e2, e3⟩ := sp_ok h k
      rw [e1, e2, e3]
      clear e1 e2 e3
      have k' := Lib.hid (decide_eq_true k)
      clear k
      go_enter Try.func57, Try.ntmps57
      go_wp2_with (refine (SpecOk_any _ _ _ _).mono ?_; rw [k'.out]; rintro e w' ⟨rfl, rfl⟩)
      exact bodyPost_ret (v := .agg #[.int .i64 s, .int .i64 a, .int .i64 b]) (by simp [results, Try.results57, go_sem]) rfl ⟨rfl, (((Below.refl _ _).alloc (Nat.le_refl _) _).alloc (by simp) _).alloc (by simp; omega) _⟩
    · obtain ⟨e1, e2, e3⟩ := sp_no h k
      rw [e1, e2, e3]
      clear e1 e2 e3
      have k' := Lib.hid (decide_eq_false k)
      clear k
      go_enter Try.func57, Try.ntmps57
      go_wp2_with (refine (SpecOk_any _ _ _ _).mono ?_; rw [k'.out]; rintro e w' ⟨rfl, rfl⟩)
      exact bodyPost_ret (v := .agg #[.int .i64 0, .int .i64 0, .int .i64 0]) (by simp [results, Try.results57, go_sem]) rfl ⟨rfl, (((Below.refl _ _).alloc (Nat.le_refl _) _).alloc (by simp) _).alloc (by simp; omega) _⟩

end Go.Proofs.Ytndffjphdlncpaa

namespace Go.Proofs.Ytndffjphdlncpaa
open Go.ChangeShapes Go.WideShapes Go.ChangeAt Go.RowKit

theorem ToCell_any (s a b : Int) (w : World) :
    Calls Try.prog 31 #[.agg #[.int .i64 s, .int .i64 a, .int .i64 b]] w fun e w' => e = .returned (.agg #[.int .i64 s, .int .i64 a, .int .i64 b]) ∧ Below w.heap.size w w' := by
  go_enter Try.func31, Try.ntmps31
  go_wp2
  exact bodyPost_ret (v := .agg #[.int .i64 s, .int .i64 a, .int .i64 b]) (by simp [results, Try.results31, go_sem]) rfl ⟨rfl, (((Below.refl _ _).alloc (Nat.le_refl _) _).alloc (by simp) _).alloc (by simp; omega) _⟩

end Go.Proofs.Ytndffjphdlncpaa

namespace Go.Proofs.Ytndffjphdlncpaa
open Go.ChangeShapes Go.WideShapes Go.ChangeAt Go.RowKit

theorem EqCell_same (s a b : Int) (w : World) :
    Calls Try.prog 32 #[.agg #[.int .i64 s, .int .i64 a, .int .i64 b], .agg #[.int .i64 s, .int .i64 a, .int .i64 b]] w fun e w' => e = .returned (.bool true) ∧ Below w.heap.size w w' := by
  go_enter Try.func32, Try.ntmps32
  go_wp2
  go_ret
  exact ⟨rfl, ((Below.refl _ _).alloc (Nat.le_refl _) _).alloc (by simp) _⟩

end Go.Proofs.Ytndffjphdlncpaa

namespace Go.Proofs.Ytndffjphdlncpaa
open Go.ChangeShapes Go.WideShapes Go.ChangeAt Go.RowKit Go.Joins

theorem cellsOf_cell : Try.prog.cellsOf 44 = 3 := by kernel_rfl

variable {H : Type} {enc : TypeId × Value → H} {w : World} {base : Nat} {spare : Nat → Bool} {held : Bool}

set_option maxRecDepth 100000 in
theorem open_cell {r : Reach} {b0 : Nat} {v : Value} {d : DataW H} {p : List MemPlace} (hv : Value.okWide Try.prog w r b0 44 v) (h : DataW.Trod enc Try.prog w base spare held 44 v d p) :
    ∃ s a b : Int, v = .agg #[.int .i64 s, .int .i64 a, .int .i64 b] ∧ d = .agg [.lit (.int .i64 s), .lit (.int .i64 a), .lit (.int .i64 b)] ∧ p = [] ∧
      (Lit.int .i64 s).wf = true ∧ (Lit.int .i64 a).wf = true ∧ (Lit.int .i64 b).wf = true := by
  obtain ⟨c0, c1, c2, y0, y1, y2, m, rfl, rfl, rfl, hy0, hy1, hy2⟩ := open_agg3 Try.underlying44 (by kernel_rfl) cellsOf_cell hv h
  obtain ⟨s, e0, rfl, ws⟩ := DataW.trod_int Try.underlying3 hy0
  obtain ⟨a, e1, rfl, wa⟩ := DataW.trod_int Try.underlying3 hy1
  obtain ⟨b, e2, rfl, wb⟩ := DataW.trod_int Try.underlying3 hy2
  simp at e0 e1 e2
  subst e0 e1 e2
  exact ⟨s, a, b, rfl, rfl, rfl, ws, wa, wb⟩

theorem shut_cell {s a b : Int} (ws : (Lit.int .i64 s).wf = true) (wa : (Lit.int .i64 a).wf = true) (wb : (Lit.int .i64 b).wf = true) :
    DataW.Trod enc Try.prog w base spare held 44 (.agg #[.int .i64 s, .int .i64 a, .int .i64 b]) (.agg [.lit (.int .i64 s), .lit (.int .i64 a), .lit (.int .i64 b)]) [] :=
  shut_agg3 (y0 := (.lit (.int .i64 s), [])) (y1 := (.lit (.int .i64 a), [])) (y2 := (.lit (.int .i64 b), [])) Try.underlying44 (by kernel_rfl) cellsOf_cell
    ⟨1, by simp [DataW.trod, Try.underlying3, ws]⟩ ⟨1, by simp [DataW.trod, Try.underlying3, wa]⟩ ⟨1, by simp [DataW.trod, Try.underlying3, wb]⟩

end Go.Proofs.Ytndffjphdlncpaa
