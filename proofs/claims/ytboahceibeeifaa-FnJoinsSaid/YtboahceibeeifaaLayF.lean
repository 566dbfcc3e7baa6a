/- Layouts: what is asked of one; sums. -/
import Derived.Test.YtboahceibeeifaaPatF
import Derived.Test.YtboahceibeeifaaCellS

set_option linter.unusedSimpArgs false
set_option linter.unusedVariables false
namespace Go.Proofs.Ytboahceibeeifaa

/-- The sum of the first k numbers. -/
def sm : Nat → (Nat → Int) → Int
  | 0, _ => 0
  | k + 1, f => sm k f + f k

/-- Element i. -/
abbrev pat (xs : List P5) (i : Nat) : P5 := xs.getD i P5.zero
/-- It lies within the layout and has a color. -/
def Fit (m n : Int) (p : P5) : Prop := (0 ≤ p.x ∧ p.x ≤ m - 1) ∧ (0 ≤ p.y ∧ p.y ≤ n - 1) ∧ (1 ≤ p.w ∧ p.w ≤ m - p.x) ∧ (1 ≤ p.h ∧ p.h ≤ n - p.y) ∧ (0 ≤ p.c ∧ p.c ≤ 5)
/-- Two have a square in common. -/
def Hit (p q : P5) : Prop := p.x < q.x + q.w ∧ q.x < p.x + p.w ∧ p.y < q.y + q.h ∧ q.y < p.y + p.h
/-- The area of the first k. -/
def ar (xs : List P5) (k : Nat) : Int := sm k fun i => (pat xs i).w * (pat xs i).h
/-- The first k are well. -/
def LayK (m n : Int) (xs : List P5) (k : Nat) : Prop := ∀ i, i < k → Fit m n (pat xs i) ∧ ∀ j, j < i → ¬ Hit (pat xs i) (pat xs j)
/-- A layout is valid. -/
def LayOk (m n : Int) (xs : List P5) : Prop := (1 ≤ m ∧ m ≤ 12) ∧ (1 ≤ n ∧ n ≤ 12) ∧ (1 ≤ xs.length ∧ xs.length ≤ 12) ∧ LayK m n xs xs.length ∧ ar xs xs.length = m * n
noncomputable def layB (m n : Int) (xs : List P5) : Bool := @decide (LayOk m n xs) (Classical.propDecidable _)
theorem lay_yes {m n : Int} {xs : List P5} (h : LayOk m n xs) : true = layB m n xs := by unfold layB; simp [h]
theorem lay_no {m n : Int} {xs : List P5} (h : ¬ LayOk m n xs) : false = layB m n xs := by unfold layB; simp [h]
theorem lay_no_m {m n : Int} {xs : List P5} (h : ¬ (1 ≤ m ∧ m ≤ 12)) : false = layB m n xs := lay_no (fun k => h k.1)
theorem lay_no_n {m n : Int} {xs : List P5} (h : ¬ (1 ≤ n ∧ n ≤ 12)) : false = layB m n xs := lay_no (fun k => h k.2.1)
theorem lay_no_l {m n : Int} {xs : List P5} (h : ¬ (1 ≤ xs.length ∧ xs.length ≤ 12)) : false = layB m n xs := lay_no (fun k => h k.2.2.1)
theorem lay_no_fit {m n : Int} {xs : List P5} {i : Nat} (hi : i < xs.length) (h : ¬ Fit m n (pat xs i)) : false = layB m n xs := lay_no (fun k => h (k.2.2.2.1 i hi).1)
theorem lay_no_hit {m n : Int} {xs : List P5} {i j : Nat} (hi : i < xs.length) (hj : j < i) (h : Hit (pat xs i) (pat xs j)) : false = layB m n xs := lay_no (fun k => (k.2.2.2.1 i hi).2 j hj h)
theorem lay_is {m n : Int} {xs : List P5} (h1 : 1 ≤ m ∧ m ≤ 12) (h2 : 1 ≤ n ∧ n ≤ 12) (h3 : 1 ≤ xs.length ∧ xs.length ≤ 12) (h4 : LayK m n xs xs.length) : decide (ar xs xs.length = m * n) = layB m n xs := by
  unfold layB; congr 1; simp [LayOk, h1, h2, h3, h4]
theorem LayK.succ {m n : Int} {xs : List P5} {k : Nat} (h : LayK m n xs k) (hf : Fit m n (pat xs k)) (hh : ∀ j, j < k → ¬ Hit (pat xs k) (pat xs j)) : LayK m n xs (k + 1) := fun i hi => by
  rcases Nat.lt_succ_iff_lt_or_eq.1 hi with h' | rfl
  · exact h i h'
  · exact ⟨hf, hh⟩
theorem mul_bd {a b : Int} (a0 : 1 ≤ a) (a1 : a ≤ 12) (b0 : 1 ≤ b) (b1 : b ≤ 12) : 1 ≤ a * b ∧ a * b ≤ 144 := by
  have h1 : 1 * 1 ≤ a * b := Int.mul_le_mul a0 b0 (by omega) (by omega)
  have h2 : a * b ≤ 12 * 12 := Int.mul_le_mul a1 b1 (by omega) (by omega)
  omega
theorem mul_wrap {a b : Int} (a0 : 1 ≤ a) (a1 : a ≤ 12) (b0 : 1 ≤ b) (b1 : b ≤ 12) : IntKind.i64.wrap (a * b) = a * b ∧ 1 ≤ a * b ∧ a * b ≤ 144 := by
  obtain ⟨h0, h1⟩ := mul_bd a0 a1 b0 b1
  refine ⟨?_, h0, h1⟩
  generalize a * b = c at h0 h1
  simp [IntKind.wrap, IntKind.bits, IntKind.signed]
  omega
theorem Fit.bd {m n : Int} {p : P5} (h : Fit m n p) (h1 : m ≤ 12) (h2 : n ≤ 12) : 1 ≤ p.w ∧ p.w ≤ 12 ∧ 1 ≤ p.h ∧ p.h ≤ 12 := by
  obtain ⟨_, _, _, _, _⟩ := h; omega
theorem ar_bd {m n : Int} {xs : List P5} (h1 : m ≤ 12) (h2 : n ≤ 12) : ∀ k : Nat, LayK m n xs k → 0 ≤ ar xs k ∧ ar xs k ≤ 144 * k
  | 0, _ => by simp [ar, sm]
  | k + 1, h => by
    have ih := ar_bd h1 h2 k (fun i hi => h i (by omega))
    obtain ⟨a, b, c, d⟩ := (h k (by omega)).1.bd h1 h2
    have := mul_bd a b c d
    have e : ar xs (k + 1) = ar xs k + (pat xs k).w * (pat xs k).h := rfl
    rw [e]; omega
theorem ar_succ {xs : List P5} {k : Nat} {a : Int} {p : P5} (h : a = ar xs k) (hp : p = pat xs k) : a + p.w * p.h = ar xs (k + 1) := by
  subst h hp; rfl

end Go.Proofs.Ytboahceibeeifaa
