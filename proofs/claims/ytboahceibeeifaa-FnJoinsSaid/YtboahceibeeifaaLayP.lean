/- Layouts: what the functions answer. -/
import Derived.Test.YtboahceibeeifaaLayF

set_option linter.unusedSimpArgs false
set_option linter.unusedVariables false
namespace Go.Proofs.Ytboahceibeeifaa

theorem ret_int {a b : Int} (h : a = b) : Ending.returned (.int .i64 a) = .returned (.int .i64 b) := by rw [h]

/-- The square at x, y is covered. -/
def Cov (p : P5) (x y : Int) : Prop := (p.x ≤ x ∧ x < p.x + p.w) ∧ p.y ≤ y ∧ y < p.y + p.h
/-- The first that covers it. -/
def PAt (xs : List P5) (x y r : Int) : Prop := (∃ k : Nat, k < xs.length ∧ r = k ∧ Cov (pat xs k) x y ∧ ∀ j, j < k → ¬ Cov (pat xs j) x y) ∨ (r = -1 ∧ ∀ j, j < xs.length → ¬ Cov (pat xs j) x y)
theorem PAt.uniq {xs : List P5} {x y r s : Int} (h : PAt xs x y r) (k : PAt xs x y s) : r = s := by
  rcases h with ⟨i, hi, rfl, hc, hn⟩ | ⟨rfl, hn⟩ <;> rcases k with ⟨j, hj, rfl, kc, kn⟩ | ⟨rfl, kn⟩
  · rcases Nat.lt_trichotomy i j with h | h | h
    · exact absurd hc (kn i h)
    · rw [h]
    · exact absurd kc (hn j h)
  · exact absurd hc (kn i hi)
  · exact absurd kc (hn j hj)
  · rfl
noncomputable def patN (xs : List P5) (x y : Int) : Int := Classical.epsilon (PAt xs x y)
theorem patN_is {xs : List P5} {x y r : Int} (h : PAt xs x y r) : r = patN xs x y := h.uniq (Classical.epsilon_spec (p := PAt xs x y) ⟨r, h⟩)
noncomputable def patL (m n : Int) (xs : List P5) (x y : Int) : Int := if layB m n xs then patN xs x y else -1
theorem patL_no {m n x y : Int} {xs : List P5} (h : layB m n xs = false) : -1 = patL m n xs x y := by simp [patL, h]
theorem patL_at {m n x y : Int} {xs : List P5} (h : layB m n xs = true) {k : Nat} (hk : k < xs.length) (hc : Cov (pat xs k) x y) (hn : ∀ j, j < k → ¬ Cov (pat xs j) x y) : (k : Int) = patL m n xs x y := by
  simp [patL, h]; exact patN_is (.inl ⟨k, hk, rfl, hc, hn⟩)
theorem patL_none {m n x y : Int} {xs : List P5} (h : layB m n xs = true) (hn : ∀ j, j < xs.length → ¬ Cov (pat xs j) x y) : -1 = patL m n xs x y := by
  simp [patL, h]; exact patN_is (.inr ⟨rfl, hn⟩)
theorem lay_of {m n : Int} {xs : List P5} (h : layB m n xs = true) : LayOk m n xs := by
  unfold layB at h; simpa using h
theorem LayOk.fit {m n : Int} {xs : List P5} (h : LayOk m n xs) {i : Nat} (hi : i < xs.length) : Fit m n (pat xs i) := (h.2.2.2.1 i hi).1
theorem patL_out_x {m n x y : Int} {xs : List P5} (h : layB m n xs = true) (hx : x < 0 ∨ m - 1 < x) : -1 = patL m n xs x y :=
  patL_none h (fun j hj hc => by obtain ⟨f0, f1, f2, f3, _⟩ := (lay_of h).fit hj; obtain ⟨c0, c1⟩ := hc; omega)
theorem patL_out_y {m n x y : Int} {xs : List P5} (h : layB m n xs = true) (hy : y < 0 ∨ n - 1 < y) : -1 = patL m n xs x y :=
  patL_none h (fun j hj hc => by obtain ⟨f0, f1, f2, f3, _⟩ := (lay_of h).fit hj; obtain ⟨c0, c1⟩ := hc; omega)

/-- Two have a part of a side in common. -/
def Bes (p q : P5) : Prop := ((p.x + p.w = q.x ∨ q.x + q.w = p.x) ∧ p.y < q.y + q.h ∧ q.y < p.y + p.h) ∨ ((p.y + p.h = q.y ∨ q.y + q.h = p.y) ∧ p.x < q.x + q.w ∧ q.x < p.x + p.w)
def BesL (m n : Int) (xs : List P5) (i k : Int) : Prop := LayOk m n xs ∧ (0 ≤ i ∧ i < xs.length) ∧ (0 ≤ k ∧ k < xs.length) ∧ i ≠ k ∧ Bes (pat xs i.toNat) (pat xs k.toNat)
noncomputable def besB (m n : Int) (xs : List P5) (i k : Int) : Bool := @decide (BesL m n xs i k) (Classical.propDecidable _)
theorem bes_no {m n i k : Int} {xs : List P5} (h : ¬ BesL m n xs i k) : false = besB m n xs i k := by unfold besB; simp [h]
theorem bes_no_lay {m n i k : Int} {xs : List P5} (h : layB m n xs = false) : false = besB m n xs i k := bes_no (fun z => by have := lay_yes z.1; rw [h] at this; cases this)
theorem bes_no_i {m n i k : Int} {xs : List P5} (h : ¬ (0 ≤ i ∧ i < xs.length)) : false = besB m n xs i k := bes_no (fun z => h z.2.1)
theorem bes_no_k {m n i k : Int} {xs : List P5} (h : ¬ (0 ≤ k ∧ k < xs.length)) : false = besB m n xs i k := bes_no (fun z => h z.2.2.1)
theorem bes_no_eq {m n i k : Int} {xs : List P5} (h : i = k) : false = besB m n xs i k := bes_no (fun z => z.2.2.2.1 h)
theorem bes_t {m n : Int} {i k : Nat} {xs : List P5} (h : layB m n xs = true) (hi : i < xs.length) (hk : k < xs.length) (hne : i ≠ k) (hb : Bes (pat xs i) (pat xs k)) : true = besB m n xs i k := by
  have : BesL m n xs i k := ⟨lay_of h, by omega, by omega, by omega, by simpa using hb⟩
  unfold besB; simp [this]
theorem bes_f {m n : Int} {i k : Nat} {xs : List P5} (hb : ¬ Bes (pat xs i) (pat xs k)) : false = besB m n xs i k := bes_no (fun z => hb (by simpa using z.2.2.2.2))

/-- The length of all seams. -/
def half (xs : List P5) (k : Nat) : Int := sm k fun i => (pat xs i).w + (pat xs i).h
noncomputable def seamL (m n : Int) (xs : List P5) : Int := if layB m n xs then half xs xs.length - m - n else -1
theorem seam_no {m n : Int} {xs : List P5} (h : layB m n xs = false) : -1 = seamL m n xs := by simp [seamL, h]
theorem seam_yes {m n : Int} {xs : List P5} (h : layB m n xs = true) {a : Int} (ha : a = half xs xs.length) : a - m - n = seamL m n xs := by simp [seamL, h, ha]
theorem half_succ {xs : List P5} {k : Nat} {a : Int} {p : P5} (h : a = half xs k) (hp : p = pat xs k) : a + p.w + p.h = half xs (k + 1) := by
  subst h hp; show _ = half xs k + ((pat xs k).w + (pat xs k).h); omega
/-- Turned by a quarter to the right. -/
def turP (n : Int) (p : P5) : P5 := ⟨n - p.y - p.h, p.x, p.h, p.w, p.c⟩
def turL (n : Int) (xs : List P5) : List P5 := xs.map (turP n)
noncomputable def tM (m n : Int) (xs : List P5) : Int := if layB m n xs then n else 0
noncomputable def tN (m n : Int) (xs : List P5) : Int := if layB m n xs then m else 0
noncomputable def tX (m n : Int) (xs : List P5) : List P5 := if layB m n xs then turL n xs else []
theorem t_no {m n : Int} {xs : List P5} (h : layB m n xs = false) : tM m n xs = 0 ∧ tN m n xs = 0 ∧ tX m n xs = [] := by simp [tM, tN, tX, h]
theorem t_yes {m n : Int} {xs : List P5} (h : layB m n xs = true) : tM m n xs = n ∧ tN m n xs = m ∧ tX m n xs = turL n xs := by simp [tM, tN, tX, h]
theorem turL_succ {n : Int} {xs : List P5} {k : Nat} (hk : k < xs.length) : turL n (xs.take (k + 1)) = turL n (xs.take k) ++ [turP n (pat xs k)] := by
  have e : pat xs k = xs[k] := by simp [pat, List.getD, hk]
  rw [List.take_succ_eq_append_getElem hk, e]; unfold turL; rw [List.map_append]; rfl
/-- The five around a middle one. -/
def smpL : List P5 := [⟨0, 0, 2, 1, 0⟩, ⟨2, 0, 1, 2, 1⟩, ⟨1, 2, 2, 1, 2⟩, ⟨0, 1, 1, 2, 3⟩, ⟨1, 1, 1, 1, 4⟩]

end Go.Proofs.Ytboahceibeeifaa
