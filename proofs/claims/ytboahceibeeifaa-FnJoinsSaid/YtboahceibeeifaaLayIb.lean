/- Layouts: a patch that fits; one that overlaps another. -/
import Derived.Test.YtboahceibeeifaaLayIa
import Derived.BigQuiet
import Derived.Deep.QuietTactic

set_option linter.unusedSimpArgs false
set_option linter.unusedVariables false
namespace Go.Proofs.Ytboahceibeeifaa
open Go.ChangeShapes Go.WideShapes Go.ChangeAt Go.RowKit

instance (m n : Int) (p : P5) : Decidable (Fit m n p) := by unfold Fit; exact inferInstance

theorem FitsInto_any (m n : Int) (v : Value) (c : P5) (w : World) (m0 : 1 ≤ m) (m1 : m ≤ 12) (n0 : 1 ≤ n) (n1 : n ≤ 12) (wf : c.Wf) :
    Calls Try.prog 64 #[.agg #[.int .i64 c.x, .int .i64 c.y, .int .i64 c.w, .int .i64 c.h, .int .i64 c.c], .agg #[.int .i64 m, .int .i64 n, v]] w fun e w' => e = .returned (.bool (decide (Fit m n c))) ∧ Below w.heap.size w w' := by
  obtain ⟨_, _, wf2, wf3, _⟩ := wf
  by_cases h1 : 0 ≤ c.x ∧ 1 ≤ c.w ∧ c.x ≤ m - c.w
  · obtain ⟨x0, x1, x2⟩ := h1
    by_cases h2 : 0 ≤ c.y ∧ 1 ≤ c.h ∧ c.y ≤ n - c.h
    · obtain ⟨y0, y1, y2⟩ := h2
      by_cases h3 : 0 ≤ c.c ∧ c.c ≤ 5
      · obtain ⟨c0, c1⟩ := h3
        have H := Lib.hid (show true = decide (Fit m n c) from (decide_eq_true (by unfold Fit; omega)).symm)
        go_enter Try.func64, Try.ntmps64
        go_wp2_with fail
        refine (Lies_yes _ _ _ _ m0 m1 x0 x1 x2).mono ?_
        rintro e w' ⟨rfl, rfl⟩
        go_wp2_with fail
        refine (Lies_yes _ _ _ _ n0 n1 y0 y1 y2).mono ?_
        rintro e w' ⟨rfl, rfl⟩
        go_wp2_with fail
        refine (ColOk_yes _ _ c0 c1).mono ?_
        rintro e w' ⟨rfl, rfl⟩
        go_wp2_with fail
        go_ret
        exact ⟨ret_bool H.out, bel_n (bel0 w _) (Nat.le_refl _) _⟩
      · have H := Lib.hid (show false = decide (Fit m n c) from (decide_eq_false (by unfold Fit; omega)).symm)
        have h3' : c.c < 0 ∨ 5 < c.c := by omega
        clear h3
        go_enter Try.func64, Try.ntmps64
        go_wp2_with fail
        refine (Lies_yes _ _ _ _ m0 m1 x0 x1 x2).mono ?_
        rintro e w' ⟨rfl, rfl⟩
        go_wp2_with fail
        refine (Lies_yes _ _ _ _ n0 n1 y0 y1 y2).mono ?_
        rintro e w' ⟨rfl, rfl⟩
        go_wp2_with fail
        refine (ColOk_no _ _ h3').mono ?_
        rintro e w' ⟨rfl, rfl⟩
        go_wp2_with fail
        go_ret
        exact ⟨ret_bool H.out, bel_n (bel0 w _) (Nat.le_refl _) _⟩
    · have H := Lib.hid (show false = decide (Fit m n c) from (decide_eq_false (by unfold Fit; omega)).symm)
      have H2 := Lib.hid h2
      clear h2
      go_enter Try.func64, Try.ntmps64
      go_wp2_with fail
      refine (Lies_yes _ _ _ _ m0 m1 x0 x1 x2).mono ?_
      rintro e w' ⟨rfl, rfl⟩
      go_wp2_with fail
      refine (Lies_no _ _ _ _ n0 n1 wf3 H2.out).mono ?_
      rintro e w' ⟨rfl, rfl⟩
      go_wp2_with fail
      go_ret
      exact ⟨ret_bool H.out, bel_n (bel0 w _) (Nat.le_refl _) _⟩
  · have H := Lib.hid (show false = decide (Fit m n c) from (decide_eq_false (by unfold Fit; omega)).symm)
    have H1 := Lib.hid h1
    clear h1
    go_enter Try.func64, Try.ntmps64
    go_wp2_with fail
    refine (Lies_no _ _ _ _ m0 m1 wf2 H1.out).mono ?_
    rintro e w' ⟨rfl, rfl⟩
    go_wp2_with fail
    go_ret
    exact ⟨ret_bool H.out, bel_n (bel0 w _) (Nat.le_refl _) _⟩

/-- It lies within the greatest layout. -/
def InP (p : P5) : Prop := (0 ≤ p.x ∧ 1 ≤ p.w ∧ p.x + p.w ≤ 12) ∧ 0 ≤ p.y ∧ 1 ≤ p.h ∧ p.y + p.h ≤ 12
theorem Fit.inp {m n : Int} {p : P5} (h : Fit m n p) (h1 : m ≤ 12) (h2 : n ≤ 12) : InP p := by
  obtain ⟨_, _, _, _, _⟩ := h; unfold InP; omega
/-- Common widths and heights. -/
def cwP (p q : P5) : Int := cmn p.x p.w q.x q.w
def chP (p q : P5) : Int := cmn p.y p.h q.y q.h
theorem hit_is (p q : P5) : Hit p q ↔ 0 < cwP p q ∧ 0 < chP p q ∨ (Hit p q ∧ ¬ (InP p ∧ InP q)) := by
  by_cases h : InP p ∧ InP q
  · obtain ⟨⟨_, _⟩, _, _⟩ := h
    unfold Hit cwP chP cmn InP; omega
  · constructor
    · intro k; exact .inr ⟨k, h⟩
    · rintro (⟨k1, k2⟩ | k)
      · unfold cwP cmn at k1; unfold chP cmn at k2; unfold Hit; omega
      · exact k.1

theorem Sides_any (p q : P5) (w : World) (hp : InP p) (hq : InP q) :
    Calls Try.prog 74 #[.agg #[.int .i64 p.x, .int .i64 p.y, .int .i64 p.w, .int .i64 p.h, .int .i64 p.c], .agg #[.int .i64 q.x, .int .i64 q.y, .int .i64 q.w, .int .i64 q.h, .int .i64 q.c]] w
      fun e w' => e = .returned (.tuple #[.int .i64 (cwP p q), .int .i64 (chP p q)]) ∧ Below w.heap.size w w' := by
  obtain ⟨⟨a0, a1, a2⟩, a3, a4, a5⟩ := hp
  obtain ⟨⟨b0, b1, b2⟩, b3, b4, b5⟩ := hq
  have C1 : ∀ u : World, Calls Try.prog 78 #[.int .i64 p.x, .int .i64 p.w, .int .i64 q.x, .int .i64 q.w] u fun e w' => e = .returned (.int .i64 (cwP p q)) ∧ w' = u := fun u => Common_any _ _ _ _ u a0 a1 a2 b0 b1 b2
  have C2 : ∀ u : World, Calls Try.prog 78 #[.int .i64 p.y, .int .i64 p.h, .int .i64 q.y, .int .i64 q.h] u fun e w' => e = .returned (.int .i64 (chP p q)) ∧ w' = u := fun u => Common_any _ _ _ _ u a3 a4 a5 b3 b4 b5
  have H1 := Lib.hid C1
  have H2 := Lib.hid C2
  clear C1 C2 a0 a1 a2 a3 a4 a5 b0 b1 b2 b3 b4 b5
  generalize cwP p q = r1 at H1 ⊢
  generalize chP p q = r2 at H2 ⊢
  obtain ⟨px, py, pw, ph, pc⟩ := p
  obtain ⟨qx, qy, qw, qh, qc⟩ := q
  dsimp only at H1 H2 ⊢
  go_enter Try.func74, Try.ntmps74
  go_wp2_with fail
  go_quiet (first | (go_at_call 78; first | with_reducible exact Calls.quiet_of_same (H1.out _) | with_reducible exact Calls.quiet_of_same (H2.out _)))
  go_wp2_with fail
  exact bodyPost_ret (v := .tuple #[.int .i64 r1, .int .i64 r2]) (by simp [results, Try.results74, go_sem]) rfl ⟨rfl, ⟨rfl, rfl, rfl, by simp; omega, fun k hk => (bel_n (bel0 w _) (Nat.le_refl _) _).block k hk⟩⟩

end Go.Proofs.Ytboahceibeeifaa
