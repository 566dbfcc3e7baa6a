/- Rows of units: what a slice of them holds. Layouts: what is asked of one; sums. Layouts: what the functions answer. -/
import Derived.Test.YtlkiacgpiodkiaaRows
import Derived.Test.YtlkiacgpiodkiaaM00
import Derived.WalkKit
import Derived.Lib.Hide
import Derived.Test.YtlkiacgpiodkiaaM04

set_option linter.unusedSimpArgs false
set_option linter.unusedVariables false
namespace Go.Proofs.Ytlkiacgpiodkiaa
open Go.ChangeShapes Go.WideShapes Go.ChangeAt Go.RowKit

structure U6 where
  x : Int
  y : Int
  w : Int
  h : Int
  c : Int
  j : Bool
theorem U6.ext' {x y : U6} (h0 : x.x = y.x) (h1 : x.y = y.y) (h2 : x.w = y.w) (h3 : x.h = y.h) (h4 : x.c = y.c) (h5 : x.j = y.j) : x = y := by cases x; cases y; simp_all
/-- As a value. -/
def U6.v (c : U6) : Value := .agg #[.int .i64 c.x, .int .i64 c.y, .int .i64 c.w, .int .i64 c.h, .int .i64 c.c, .bool c.j]
def U6.zero : U6 := ⟨0, 0, 0, 0, 0, false⟩
/-- Its numbers are int64s. -/
def U6.Wf (c : U6) : Prop := (Lit.int .i64 c.x).wf = true ∧ (Lit.int .i64 c.y).wf = true ∧ (Lit.int .i64 c.w).wf = true ∧ (Lit.int .i64 c.h).wf = true ∧ (Lit.int .i64 c.c).wf = true
instance : Inhabited U6 := ⟨U6.zero⟩

/-- Element number i of a row at block g holds c. -/
def ElUn (w : World) (g i : Nat) (c : U6) : Prop :=
  w.cell? ⟨g, i * 6, none⟩ = some (.int .i64 c.x) ∧ w.cell? ⟨g, i * 6 + 1, none⟩ = some (.int .i64 c.y) ∧ w.cell? ⟨g, i * 6 + 2, none⟩ = some (.int .i64 c.w) ∧ w.cell? ⟨g, i * 6 + 3, none⟩ = some (.int .i64 c.h) ∧ w.cell? ⟨g, i * 6 + 4, none⟩ = some (.int .i64 c.c) ∧ w.cell? ⟨g, i * 6 + 5, none⟩ = some (.bool c.j)
def SoftUn (w : World) (g i : Nat) : Prop :=
  w.frozen? ⟨g, i * 6, none⟩ = false ∧ w.frozen? ⟨g, i * 6 + 1, none⟩ = false ∧ w.frozen? ⟨g, i * 6 + 2, none⟩ = false ∧ w.frozen? ⟨g, i * 6 + 3, none⟩ = false ∧ w.frozen? ⟨g, i * 6 + 4, none⟩ = false ∧ w.frozen? ⟨g, i * 6 + 5, none⟩ = false
theorem ElUn.lt {w : World} {g i : Nat} {c : U6} (h : ElUn w g i c) : g < w.heap.size := lt_of_cell h.1
theorem ElUn.below {w w' : World} {g i B : Nat} {c : U6} (h : ElUn w g i c) (hb : Below B w w') (hg : g < B) : ElUn w' g i c :=
  ⟨(hb.cell (p := ⟨g, i * 6, none⟩) hg).trans h.1, (hb.cell (p := ⟨g, i * 6 + 1, none⟩) hg).trans h.2.1, (hb.cell (p := ⟨g, i * 6 + 2, none⟩) hg).trans h.2.2.1, (hb.cell (p := ⟨g, i * 6 + 3, none⟩) hg).trans h.2.2.2.1, (hb.cell (p := ⟨g, i * 6 + 4, none⟩) hg).trans h.2.2.2.2.1, (hb.cell (p := ⟨g, i * 6 + 5, none⟩) hg).trans h.2.2.2.2.2⟩
theorem SoftUn.below {w w' : World} {g i B : Nat} (h : SoftUn w g i) (hb : Below B w w') (hg : g < B) : SoftUn w' g i :=
  ⟨(hb.frozen (p := ⟨g, i * 6, none⟩) hg).trans h.1, (hb.frozen (p := ⟨g, i * 6 + 1, none⟩) hg).trans h.2.1, (hb.frozen (p := ⟨g, i * 6 + 2, none⟩) hg).trans h.2.2.1, (hb.frozen (p := ⟨g, i * 6 + 3, none⟩) hg).trans h.2.2.2.1, (hb.frozen (p := ⟨g, i * 6 + 4, none⟩) hg).trans h.2.2.2.2.1, (hb.frozen (p := ⟨g, i * 6 + 5, none⟩) hg).trans h.2.2.2.2.2⟩

/-- A slice of them in a block from lo on, below hi. -/
def UnIn (lo hi : Nat) (w : World) (v : Value) (xs : List U6) : Prop :=
  xs.length ≤ 1048576 ∧ ((xs = [] ∧ ∃ a c, v = .slice a 0 c) ∨
    ∃ g cap, v = .slice (some ⟨g, 0, none⟩) xs.length cap ∧ xs.length ≤ cap ∧ lo ≤ g ∧ g < hi ∧ ∀ i, i < xs.length → ElUn w g i (xs.getD i U6.zero) ∧ SoftUn w g i)
theorem UnIn.below {lo hi : Nat} {w w' : World} {v : Value} {xs : List U6} (h : UnIn lo hi w v xs) (hb : Below hi w w') : UnIn lo hi w' v xs := by
  obtain ⟨hl, h | ⟨g, cap, hv, hcp, hg, hlt, hc⟩⟩ := h
  · exact ⟨hl, .inl h⟩
  · exact ⟨hl, .inr ⟨g, cap, hv, hcp, hg, hlt, fun i hi => ⟨(hc i hi).1.below hb hlt, (hc i hi).2.below hb hlt⟩⟩⟩
theorem UnIn.wide {lo hi lo' hi' : Nat} {w : World} {v : Value} {xs : List U6} (h : UnIn lo hi w v xs) (h1 : lo' ≤ lo) (h2 : hi ≤ hi') : UnIn lo' hi' w v xs := by
  obtain ⟨hl, h | ⟨g, cap, hv, hcp, hg, hlt, hc⟩⟩ := h
  · exact ⟨hl, .inl h⟩
  · exact ⟨hl, .inr ⟨g, cap, hv, hcp, by omega, by omega, hc⟩⟩
/-- Its shape. -/
theorem UnIn.form {lo hi : Nat} {w : World} {v : Value} {xs : List U6} (h : UnIn lo hi w v xs) : ∃ a cap, v = .slice a xs.length cap := by
  obtain ⟨_, ⟨rfl, a, c, hv⟩ | ⟨g, cap, hv, _⟩⟩ := h
  · exact ⟨a, c, hv⟩
  · exact ⟨_, _, hv⟩
/-- Element i, at a world in which only new blocks have come. -/
theorem UnIn.at {lo hi : Nat} {w w' : World} {a : Option Addr} {n cap : Nat} {xs : List U6} (h : UnIn lo hi w (.slice a n cap) xs) (hb : Below hi w w') {i : Nat} (hi' : i < xs.length) :
    ∃ g, a = some ⟨g, 0, none⟩ ∧ lo ≤ g ∧ g < hi ∧ ElUn w' g i (xs.getD i U6.zero) ∧ SoftUn w' g i := by
  obtain ⟨_, ⟨rfl, _⟩ | ⟨g, cap, hv, hcp, hg, hlt, hc⟩⟩ := h
  · simp at hi'
  · simp only [Value.slice.injEq] at hv
    exact ⟨g, hv.1, hg, hlt, (hc i hi').1.below hb hlt, (hc i hi').2.below hb hlt⟩
/-- It may be cut as far as it is long. -/
theorem UnIn.cap {lo hi : Nat} {w : World} {a : Option Addr} {n cap : Nat} {xs : List U6} (h : UnIn lo hi w (.slice a n cap) xs) : n ≤ cap := by
  obtain ⟨_, ⟨rfl, a', c', hv⟩ | ⟨g, cap', hv, hcp, _⟩⟩ := h
  · simp only [Value.slice.injEq] at hv; omega
  · simp only [Value.slice.injEq] at hv; omega
/-- Its first k elements. -/
theorem UnIn.take {lo hi g : Nat} {w : World} {n cap : Nat} {xs : List U6} (h : UnIn lo hi w (.slice (some ⟨g, 0, none⟩) n cap) xs) (k : Nat) (hk : k ≤ xs.length) : UnIn lo hi w (.slice (some ⟨g, 0, none⟩) k cap) (xs.take k) := by
  obtain ⟨hl, ⟨h, _⟩ | ⟨g', cap', hv, hcp, hg, hlt, hc⟩⟩ := h
  · subst h
    simp at hk
    subst hk
    exact ⟨by simp, .inl ⟨by simp, _, _, rfl⟩⟩
  · simp only [Value.slice.injEq, Option.some.injEq, Addr.mk.injEq, and_true] at hv
    obtain ⟨rfl, _, rfl⟩ := hv
    have e : (xs.take k).length = k := by simp; omega
    refine ⟨by omega, .inr ⟨g, cap, by rw [e], by omega, hg, hlt, fun i hi => ?_⟩⟩
    have := hc i (by omega)
    rwa [show (xs.take k).getD i U6.zero = xs.getD i U6.zero by simp [List.getD, show i < k by omega]]

end Go.Proofs.Ytlkiacgpiodkiaa

set_option linter.unusedSimpArgs false
set_option linter.unusedVariables false
namespace Go.Proofs.Ytlkiacgpiodkiaa

/-- The sum of the first k numbers. -/
def sm : Nat → (Nat → Int) → Int
  | 0, _ => 0
  | k + 1, f => sm k f + f k

/-- Element i. -/
abbrev pat (xs : List P5) (i : Nat) : P5 := xs.getD i P5.zero
/-- It lies within the layout and has a color. -/
def Fit (m n : Int) (p : P5) : Prop := (0 ≤ p.x ∧ p.x ≤ m - 1) ∧ (0 ≤ p.y ∧ p.y ≤ n - 1) ∧ (1 ≤ p.w ∧ p.w ≤ m - p.x) ∧ (1 ≤ p.h ∧ p.h ≤ n - p.y) ∧ (0 ≤ p.c ∧ p.c ≤ 5)
/-- Two have a square in common. -/
def Hit (p q : P5) : Prop := p.x < q.x + q.w ∧ q.x < p.x + p.w ∧ p.y < q.y + q.h ∧ q.y < p.y + p.h
/-- The area of the first k. -/
def ar (xs : List P5) (k : Nat) : Int := sm k fun i => (pat xs i).w * (pat xs i).h
/-- The first k are well. -/
def LayK (m n : Int) (xs : List P5) (k : Nat) : Prop := ∀ i, i < k → Fit m n (pat xs i) ∧ ∀ j, j < i → ¬ Hit (pat xs i) (pat xs j)
/-- A layout is valid. -/
def LayOk (m n : Int) (xs : List P5) : Prop := (1 ≤ m ∧ m ≤ 12) ∧ (1 ≤ n ∧ n ≤ 12) ∧ (1 ≤ xs.length ∧ xs.length ≤ 12) ∧ LayK m n xs xs.length ∧ ar xs xs.length = m * n
noncomputable def layB (m n : Int) (xs : List P5) : Bool := @decide (LayOk m n xs) (Classical.propDecidable _)
theorem lay_yes {m n : Int} {xs : List P5} (h : LayOk m n xs) : true = layB m n xs := by unfold layB; simp [h]
theorem lay_no {m n : Int} {xs : List P5} (h : ¬ LayOk m n xs) : false = layB m n xs := by unfold layB; simp [h]
theorem lay_no_m {m n : Int} {xs : List P5} (h : ¬ (1 ≤ m ∧ m ≤ 12)) : false = layB m n xs := lay_no (fun k => h k.1)
theorem lay_no_n {m n : Int} {xs : List P5} (h : ¬ (1 ≤ n ∧ n ≤ 12)) : false = layB m n xs := lay_no (fun k => h k.2.1)
theorem lay_no_l {m n : Int} {xs : List P5} (h : ¬ (1 ≤ xs.length ∧ xs.length ≤ 12)) : false = layB m n xs := lay_no (fun k => h k.2.2.1)
theorem lay_no_fit {m n : Int} {xs : List P5} {i : Nat} (hi : i < xs.length) (h : ¬ Fit m n (pat xs i)) : false = layB m n xs := lay_no (fun k => h (k.2.2.2.1 i hi).1)
theorem lay_no_hit {m n : Int} {xs : List P5} {i j : Nat} (hi : i < xs.length) (hj : j < i) (h : Hit (pat xs i) (pat xs j)) : false = layB m n xs := lay_no (fun k => (k.2.2.2.1 i hi).2 j hj h)
theorem lay_is {m n : Int} {xs : List P5} (h1 : 1 ≤ m ∧ m ≤ 12) (h2 : 1 ≤ n ∧ n ≤ 12) (h3 : 1 ≤ xs.length ∧ xs.length ≤ 12) (h4 : LayK m n xs xs.length) : decide (ar xs xs.length = m * n) = layB m n xs := by
  unfold layB; congr 1; simp [LayOk, h1, h2, h3, h4]
theorem LayK.succ {m n : Int} {xs : List P5} {k : Nat} (h : LayK m n xs k) (hf : Fit m n (pat xs k)) (hh : ∀ j, j < k → ¬ Hit (pat xs k) (pat xs j)) : LayK m n xs (k + 1) := fun i hi => by
  rcases Nat.lt_succ_iff_lt_or_eq.1 hi with h' | rfl
  · exact h i h'
  · exact ⟨hf, hh⟩
theorem mul_bd {a b : Int} (a0 : 1 ≤ a) (a1 : a ≤ 12) (b0 : 1 ≤ b) (b1 : b ≤ 12) : 1 ≤ a * b ∧ a * b ≤ 144 := by
  have h1 : 1 * 1 ≤ a * b := Int.mul_le_mul a0 b0 (by omega) (by omega)
  have h2 : a * b ≤ 12 * 12 := Int.mul_le_mul a1 b1 (by omega) (by omega)
  omega
theorem mul_wrap {a b : Int} (a0 : 1 ≤ a) (a1 : a ≤ 12) (b0 : 1 ≤ b) (b1 : b ≤ 12) : IntKind.i64.wrap (a * b) = a * b ∧ 1 ≤ a * b ∧ a * b ≤ 144 := by
  obtain ⟨h0, h1⟩ := mul_bd a0 a1 b0 b1
  refine ⟨?_, h0, h1⟩
  generalize a * b = c at h0 h1
  simp [IntKind.wrap, IntKind.bits, IntKind.signed]
  omega
theorem Fit.bd {m n : Int} {p : P5} (h : Fit m n p) (h1 : m ≤ 12) (h2 : n ≤ 12) : 1 ≤ p.w ∧ p.w ≤ 12 ∧ 1 ≤ p.h ∧ p.h ≤ 12 := by
  obtain ⟨_, _, _, _, _⟩ := h; omega
theorem ar_bd {m n : Int} {xs : List P5} (h1 : m ≤ 12) (h2 : n ≤ 12) : ∀ k : Nat, LayK m n xs k → 0 ≤ ar xs k ∧ ar xs k ≤ 144 * k
  | 0, _ => by simp [ar, sm]
  | k + 1, h => by
    have ih := ar_bd h1 h2 k (fun i hi => h i (by omega))
    obtain ⟨a, b, c, d⟩ := (h k (by omega)).1.bd h1 h2
    have := mul_bd a b c d
    have e : ar xs (k + 1) = ar xs k + (pat xs k).w * (pat xs k).h := rfl
    rw [e]; omega
theorem ar_succ {xs : List P5} {k : Nat} {a : Int} {p : P5} (h : a = ar xs k) (hp : p = pat xs k) : a + p.w * p.h = ar xs (k + 1) := by
  subst h hp; rfl

end Go.Proofs.Ytlkiacgpiodkiaa

set_option linter.unusedSimpArgs false
set_option linter.unusedVariables false
namespace Go.Proofs.Ytlkiacgpiodkiaa

theorem ret_int {a b : Int} (h : a = b) : Ending.returned (.int .i64 a) = .returned (.int .i64 b) := by rw [h]

/-- The square at x, y is covered. -/
def Cov (p : P5) (x y : Int) : Prop := (p.x ≤ x ∧ x < p.x + p.w) ∧ p.y ≤ y ∧ y < p.y + p.h
/-- The first that covers it. -/
def PAt (xs : List P5) (x y r : Int) : Prop := (∃ k : Nat, k < xs.length ∧ r = k ∧ Cov (pat xs k) x y ∧ ∀ j, j < k → ¬ Cov (pat xs j) x y) ∨ (r = -1 ∧ ∀ j, j < xs.length → ¬ Cov (pat xs j) x y)
theorem PAt.uniq {xs : List P5} {x y r s : Int} (h : PAt xs x y r) (k : PAt xs x y s) : r = s := by
  rcases h with ⟨i, hi, rfl, hc, hn⟩ | ⟨rfl, hn⟩ <;> rcases k with ⟨j, hj, rfl, kc, kn⟩ | ⟨rfl, kn⟩
  · rcases Nat.lt_trichotomy i j with h | h | h
    · exact absurd hc (kn i h)
    · rw [h]
    · exact absurd kc (hn j h)
  · exact absurd hc (kn i hi)
  · exact absurd kc (hn j hj)
  · rfl
noncomputable def patN (xs : List P5) (x y : Int) : Int := Classical.epsilon (PAt xs x y)
theorem patN_is {xs : List P5} {x y r : Int} (h : PAt xs x y r) : r = patN xs x y := h.uniq (Classical.epsilon_spec (p := PAt xs x y) ⟨r, h⟩)
noncomputable def patL (m n : Int) (xs : List P5) (x y : Int) : Int := if layB m n xs then patN xs x y else -1
theorem patL_no {m n x y : Int} {xs : List P5} (h : layB m n xs = false) : -1 = patL m n xs x y := by simp [patL, h]
theorem patL_at {m n x y : Int} {xs : List P5} (h : layB m n xs = true) {k : Nat} (hk : k < xs.length) (hc : Cov (pat xs k) x y) (hn : ∀ j, j < k → ¬ Cov (pat xs j) x y) : (k : Int) = patL m n xs x y := by
  simp [patL, h]; exact patN_is (.inl ⟨k, hk, rfl, hc, hn⟩)
theorem patL_none {m n x y : Int} {xs : List P5} (h : layB m n xs = true) (hn : ∀ j, j < xs.length → ¬ Cov (pat xs j) x y) : -1 = patL m n xs x y := by
  simp [patL, h]; exact patN_is (.inr ⟨rfl, hn⟩)
theorem lay_of {m n : Int} {xs : List P5} (h : layB m n xs = true) : LayOk m n xs := by
  unfold layB at h; simpa using h
theorem LayOk.fit {m n : Int} {xs : List P5} (h : LayOk m n xs) {i : Nat} (hi : i < xs.length) : Fit m n (pat xs i) := (h.2.2.2.1 i hi).1
theorem patL_out_x {m n x y : Int} {xs : List P5} (h : layB m n xs = true) (hx : x < 0 ∨ m - 1 < x) : -1 = patL m n xs x y :=
  patL_none h (fun j hj hc => by obtain ⟨f0, f1, f2, f3, _⟩ := (lay_of h).fit hj; obtain ⟨c0, c1⟩ := hc; omega)
theorem patL_out_y {m n x y : Int} {xs : List P5} (h : layB m n xs = true) (hy : y < 0 ∨ n - 1 < y) : -1 = patL m n xs x y :=
  patL_none h (fun j hj hc => by obtain ⟨f0, f1, f2, f3, _⟩ := (lay_of h).fit hj; obtain ⟨c0, c1⟩ := hc; omega)

/-- Two have a part of a side in common. -/
def Bes (p q : P5) : Prop := ((p.x + p.w = q.x ∨ q.x + q.w = p.x) ∧ p.y < q.y + q.h ∧ q.y < p.y + p.h) ∨ ((p.y + p.h = q.y ∨ q.y + q.h = p.y) ∧ p.x < q.x + q.w ∧ q.x < p.x + p.w)
def BesL (m n : Int) (xs : List P5) (i k : Int) : Prop := LayOk m n xs ∧ (0 ≤ i ∧ i < xs.length) ∧ (0 ≤ k ∧ k < xs.length) ∧ i ≠ k ∧ Bes (pat xs i.toNat) (pat xs k.toNat)
noncomputable def besB (m n : Int) (xs : List P5) (i k : Int) : Bool := @decide (BesL m n xs i k) (Classical.propDecidable _)
theorem bes_no {m n i k : Int} {xs : List P5} (h : ¬ BesL m n xs i k) : false = besB m n xs i k := by unfold besB; simp [h]
theorem bes_no_lay {m n i k : Int} {xs : List P5} (h : layB m n xs = false) : false = besB m n xs i k := bes_no (fun z => by have := lay_yes z.1; rw [h] at this; cases this)
theorem bes_no_i {m n i k : Int} {xs : List P5} (h : ¬ (0 ≤ i ∧ i < xs.length)) : false = besB m n xs i k := bes_no (fun z => h z.2.1)
theorem bes_no_k {m n i k : Int} {xs : List P5} (h : ¬ (0 ≤ k ∧ k < xs.length)) : false = besB m n xs i k := bes_no (fun z => h z.2.2.1)
theorem bes_no_eq {m n i k : Int} {xs : List P5} (h : i = k) : false = besB m n xs i k := bes_no (fun z => z.2.2.2.1 h)
theorem bes_t {m n : Int} {i k : Nat} {xs : List P5} (h : layB m n xs = true) (hi : i < xs.length) (hk : k < xs.length) (hne : i ≠ k) (hb : Bes (pat xs i) (pat xs k)) : true = besB m n xs i k := by
  have : BesL m n xs i k := ⟨lay_of h, by omega, by omega, by omega, by simpa using hb⟩
  unfold besB; simp [this]
theorem bes_f {m n : Int} {i k : Nat} {xs : List P5} (hb : ¬ Bes (pat xs i) (pat xs k)) : false = besB m n xs i k := bes_no (fun z => hb (by simpa using z.2.2.2.2))

/-- The length of all seams. -/
def half (xs : List P5) (k : Nat) : Int := sm k fun i => (pat xs i).w + (pat xs i).h
noncomputable def seamL (m n : Int) (xs : List P5) : Int := if layB m n xs then half xs xs.length - m - n else -1
theorem seam_no {m n : Int} {xs : List P5} (h : layB m n xs = false) : -1 = seamL m n xs := by simp [seamL, h]
theorem seam_yes {m n : Int} {xs : List P5} (h : layB m n xs = true) {a : Int} (ha : a = half xs xs.length) : a - m - n = seamL m n xs := by simp [seamL, h, ha]
theorem half_succ {xs : List P5} {k : Nat} {a : Int} {p : P5} (h : a = half xs k) (hp : p = pat xs k) : a + p.w + p.h = half xs (k + 1) := by
  subst h hp; show _ = half xs k + ((pat xs k).w + (pat xs k).h); omega
/-- Turned by a quarter to the right. -/
def turP (n : Int) (p : P5) : P5 := ⟨n - p.y - p.h, p.x, p.h, p.w, p.c⟩
def turL (n : Int) (xs : List P5) : List P5 := xs.map (turP n)
noncomputable def tM (m n : Int) (xs : List P5) : Int := if layB m n xs then n else 0
noncomputable def tN (m n : Int) (xs : List P5) : Int := if layB m n xs then m else 0
noncomputable def tX (m n : Int) (xs : List P5) : List P5 := if layB m n xs then turL n xs else []
theorem t_no {m n : Int} {xs : List P5} (h : layB m n xs = false) : tM m n xs = 0 ∧ tN m n xs = 0 ∧ tX m n xs = [] := by simp [tM, tN, tX, h]
theorem t_yes {m n : Int} {xs : List P5} (h : layB m n xs = true) : tM m n xs = n ∧ tN m n xs = m ∧ tX m n xs = turL n xs := by simp [tM, tN, tX, h]
theorem turL_succ {n : Int} {xs : List P5} {k : Nat} (hk : k < xs.length) : turL n (xs.take (k + 1)) = turL n (xs.take k) ++ [turP n (pat xs k)] := by
  have e : pat xs k = xs[k] := by simp [pat, List.getD, hk]
  rw [List.take_succ_eq_append_getElem hk, e]; unfold turL; rw [List.map_append]; rfl
/-- The five around a middle one. -/
def smpL : List P5 := [⟨0, 0, 2, 1, 0⟩, ⟨2, 0, 1, 2, 1⟩, ⟨1, 2, 2, 1, 2⟩, ⟨0, 1, 1, 2, 3⟩, ⟨1, 1, 1, 1, 4⟩]

end Go.Proofs.Ytlkiacgpiodkiaa
