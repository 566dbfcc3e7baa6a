/- Layouts: what the program's LayoutOk asks of one patch; what two have in common. Layouts: a patch that fits; one that overlaps another. Layouts: sums over squares; each square has one patch; all common sides together are the seams. -/
import Derived.Test.YtlkiacgpiodkiaaM07
import Derived.Test.YtlkiacgpiodkiaaM03
import Derived.BigQuiet
import Derived.Deep.QuietTactic

set_option linter.unusedSimpArgs false
set_option linter.unusedVariables false
namespace Go.Proofs.Ytlkiacgpiodkiaa
open Go.ChangeShapes Go.WideShapes Go.ChangeAt Go.RowKit

theorem wf_le {x : Int} (h : (Lit.int .i64 x).wf = true) : -9223372036854775808 ≤ x ∧ x ≤ 9223372036854775807 := by
  simpa [Lit.wf, IntKind.min, IntKind.max, IntKind.bits, IntKind.signed] using h
/-- How much two stretches have in common. -/
def cmn (s z s2 z2 : Int) : Int := min (s + z) (s2 + z2) - max s s2
end Go.Proofs.Ytlkiacgpiodkiaa

set_option linter.unusedSimpArgs false
set_option linter.unusedVariables false
namespace Go.Proofs.Ytlkiacgpiodkiaa
open Go.ChangeShapes Go.WideShapes Go.ChangeAt Go.RowKit

instance (m n : Int) (p : P5) : Decidable (Fit m n p) := by unfold Fit; exact inferInstance

/-- It lies within the greatest layout. -/
def InP (p : P5) : Prop := (0 ≤ p.x ∧ 1 ≤ p.w ∧ p.x + p.w ≤ 12) ∧ 0 ≤ p.y ∧ 1 ≤ p.h ∧ p.y + p.h ≤ 12
theorem Fit.inp {m n : Int} {p : P5} (h : Fit m n p) (h1 : m ≤ 12) (h2 : n ≤ 12) : InP p := by
  obtain ⟨_, _, _, _, _⟩ := h; unfold InP; omega
/-- Common widths and heights. -/
def cwP (p q : P5) : Int := cmn p.x p.w q.x q.w
def chP (p q : P5) : Int := cmn p.y p.h q.y q.h
theorem hit_is (p q : P5) : Hit p q ↔ 0 < cwP p q ∧ 0 < chP p q ∨ (Hit p q ∧ ¬ (InP p ∧ InP q)) := by
  by_cases h : InP p ∧ InP q
  · obtain ⟨⟨_, _⟩, _, _⟩ := h
    unfold Hit cwP chP cmn InP; omega
  · constructor
    · intro k; exact .inr ⟨k, h⟩
    · rintro (⟨k1, k2⟩ | k)
      · unfold cwP cmn at k1; unfold chP cmn at k2; unfold Hit; omega
      · exact k.1

end Go.Proofs.Ytlkiacgpiodkiaa

set_option linter.unusedSimpArgs false
set_option linter.unusedVariables false
namespace Go.Proofs.Ytlkiacgpiodkiaa

theorem sm_congr {f g : Nat → Int} : ∀ {k : Nat}, (∀ i, i < k → f i = g i) → sm k f = sm k g
  | 0, _ => rfl
  | k + 1, h => by
    show sm k f + f k = sm k g + g k
    rw [sm_congr (fun i hi => h i (by omega)), h k (by omega)]
theorem sm_add (f g : Nat → Int) : ∀ k : Nat, sm k (fun i => f i + g i) = sm k f + sm k g
  | 0 => rfl
  | k + 1 => by
    show sm k (fun i => f i + g i) + (f k + g k) = (sm k f + f k) + (sm k g + g k)
    rw [sm_add f g k]; omega
theorem sm_zero : ∀ k : Nat, sm k (fun _ => 0) = 0
  | 0 => rfl
  | k + 1 => by show sm k (fun _ => 0) + 0 = 0; rw [sm_zero k]; rfl
theorem sm_const (c : Int) : ∀ k : Nat, sm k (fun _ => c) = k * c
  | 0 => by simp [sm]
  | k + 1 => by
    show sm k (fun _ => c) + c = ((k + 1 : Nat) : Int) * c
    rw [sm_const c k, Int.natCast_succ, Int.add_mul, Int.one_mul]
theorem sm_mul (c : Int) (f : Nat → Int) : ∀ k : Nat, sm k (fun i => c * f i) = c * sm k f
  | 0 => by simp [sm]
  | k + 1 => by
    show sm k (fun i => c * f i) + c * f k = c * (sm k f + f k)
    rw [sm_mul c f k, Int.mul_add]
theorem sm_mul_r (c : Int) (f : Nat → Int) : ∀ k : Nat, sm k (fun i => f i * c) = sm k f * c
  | 0 => by simp [sm]
  | k + 1 => by
    show sm k (fun i => f i * c) + f k * c = (sm k f + f k) * c
    rw [sm_mul_r c f k, Int.add_mul]
theorem sm_swap (f : Nat → Nat → Int) (b : Nat) : ∀ a : Nat, sm a (fun i => sm b (fun j => f i j)) = sm b (fun j => sm a (fun i => f i j))
  | 0 => (sm_zero b).symm
  | a + 1 => by
    show sm a (fun i => sm b (fun j => f i j)) + sm b (fun j => f a j) = sm b (fun j => sm a (fun i => f i j) + f a j)
    rw [sm_swap f b a, sm_add]
theorem sm_le {f : Nat → Int} {c : Int} : ∀ {k : Nat}, (∀ i, i < k → f i ≤ c) → sm k f ≤ k * c
  | 0, _ => by simp [sm]
  | k + 1, h => by
    have h1 := sm_le (k := k) (fun i hi => h i (by omega))
    have h2 := h k (by omega)
    show sm k f + f k ≤ ((k + 1 : Nat) : Int) * c
    rw [Int.natCast_succ, Int.add_mul, Int.one_mul]; omega
theorem sm_all {f : Nat → Int} {c : Int} : ∀ {k : Nat}, (∀ i, i < k → f i ≤ c) → sm k f = k * c → ∀ i, i < k → f i = c
  | 0, _, _, i, hi => by omega
  | k + 1, h, e, i, hi => by
    have h1 := sm_le (k := k) (fun i hi => h i (by omega))
    have h2 := h k (by omega)
    have e' : sm k f + f k = ((k + 1 : Nat) : Int) * c := e
    rw [Int.natCast_succ, Int.add_mul, Int.one_mul] at e'
    rcases Nat.lt_succ_iff_lt_or_eq.1 hi with hk | rfl
    · exact sm_all (k := k) (fun i hi => h i (by omega)) (by omega) i hk
    · omega
theorem sm_tri (f : Nat → Nat → Int) : ∀ k : Nat, sm k (fun i => sm i (fun j => f i j + f j i)) + sm k (fun i => f i i) = sm k (fun i => sm k (fun j => f i j))
  | 0 => rfl
  | k + 1 => by
    have ih := sm_tri f k
    show (sm k (fun i => sm i (fun j => f i j + f j i)) + sm k (fun j => f k j + f j k)) + (sm k (fun i => f i i) + f k k) = sm k (fun i => sm k (fun j => f i j) + f i k) + (sm k (fun j => f k j) + f k k)
    rw [sm_add (fun j => f k j) (fun j => f j k), sm_add (fun i => sm k (fun j => f i j)) (fun i => f i k)]
    omega
/-- At most one of noughts and ones. -/
theorem sm_one {f : Nat → Int} : ∀ {k : Nat}, (∀ i, i < k → f i = 0 ∨ f i = 1) → (∀ i, i < k → ∀ j, j < i → ¬ (f i = 1 ∧ f j = 1)) → sm k f ≤ 1
  | 0, _, _ => by simp [sm]
  | k + 1, h, hu => by
    have ih := sm_one (k := k) (fun i hi => h i (by omega)) (fun i hi => hu i (by omega))
    show sm k f + f k ≤ 1
    rcases h k (by omega) with h0 | h1
    · omega
    · have : sm k f = 0 := by
        rw [← sm_zero k]
        refine sm_congr (fun j hj => ?_)
        rcases h j (by omega) with z | z
        · exact z
        · exact absurd ⟨h1, z⟩ (hu k (by omega) j hj)
      omega
theorem sm_ex {f : Nat → Int} {k : Nat} (h : ∀ i, i < k → f i = 0 ∨ f i = 1) (e : sm k f = 1) : ∃ i, i < k ∧ f i = 1 := by
  apply Classical.byContradiction
  intro hn
  have : sm k f = sm k (fun _ => 0) := sm_congr (fun i hi => by
    rcases h i hi with z | z
    · exact z
    · exact absurd ⟨i, hi, z⟩ hn)
  rw [sm_zero] at this; omega

/-- The number x lies in a stretch. -/
def iv (a l : Int) (x : Nat) : Int := if a ≤ x ∧ (x : Int) < a + l then 1 else 0
theorem iv_01 (a l : Int) (x : Nat) : iv a l x = 0 ∨ iv a l x = 1 := by unfold iv; split <;> simp
theorem iv_1 {a l : Int} {x : Nat} : iv a l x = 1 ↔ a ≤ x ∧ (x : Int) < a + l := by unfold iv; split <;> simp_all
theorem sm_iv {a l : Int} (h0 : 0 ≤ a) (h1 : 0 ≤ l) : ∀ k : Nat, sm k (iv a l) = max 0 (min (k : Int) (a + l) - a)
  | 0 => by show (0 : Int) = _; omega
  | k + 1 => by
    show sm k (iv a l) + iv a l k = _
    rw [sm_iv h0 h1 k]; unfold iv; split <;> omega
theorem iv_len {a l : Int} {k : Nat} (h0 : 0 ≤ a) (h1 : 0 ≤ l) (h2 : a + l ≤ k) : sm k (iv a l) = l := by rw [sm_iv h0 h1]; omega
theorem iv_mul (a l b r : Int) (x : Nat) : iv a l x * iv b r x = iv (max a b) (max 0 (min (a + l) (b + r) - max a b)) x := by
  unfold iv; split <;> split <;> split <;> omega
theorem iv_both {a l b r : Int} {k : Nat} (h0 : 0 ≤ a) (h2 : a + l ≤ k) (h3 : 0 ≤ b) : sm k (fun x => iv a l x * iv b r x) = max 0 (min (a + l) (b + r) - max a b) := by
  rw [sm_congr (fun x _ => iv_mul a l b r x)]
  by_cases h : 0 ≤ min (a + l) (b + r) - max a b
  · exact iv_len (by omega) (by omega) (by omega)
  · rw [sm_iv (by omega) (by omega)]; omega

/-- The square is covered: nought or one. -/
def cv (p : P5) (x y : Nat) : Int := iv p.x p.w x * iv p.y p.h y
theorem cv_01 (p : P5) (x y : Nat) : cv p x y = 0 ∨ cv p x y = 1 := by
  unfold cv; rcases iv_01 p.x p.w x with h | h <;> rcases iv_01 p.y p.h y with k | k <;> simp [h, k]
theorem cv_1 {p : P5} {x y : Nat} : cv p x y = 1 ↔ Cov p x y := by
  unfold Cov
  rw [← iv_1, ← iv_1]; unfold cv
  rcases iv_01 p.x p.w x with h | h <;> rcases iv_01 p.y p.h y with k | k <;> simp [h, k]
theorem cov_hit {p q : P5} {x y : Int} (h : Cov p x y) (k : Cov q x y) : Hit p q := by
  obtain ⟨⟨_, _⟩, _, _⟩ := h; obtain ⟨⟨_, _⟩, _, _⟩ := k; unfold Hit; omega

variable {m n : Int} {xs : List P5}

/-- Each square has just one patch. -/
theorem one_each (h : LayOk m n xs) (x y : Nat) (hx : (x : Int) < m) (hy : (y : Int) < n) : sm xs.length (fun k => cv (pat xs k) x y) = 1 := by
  have hle : ∀ y x : Nat, sm xs.length (fun k => cv (pat xs k) x y) ≤ 1 := fun y x => sm_one (fun i _ => cv_01 _ _ _) (fun i hi j hj z => (h.2.2.2.1 i hi).2 j hj (cov_hit (cv_1.1 z.1) (cv_1.1 z.2)))
  have tot : sm n.toNat (fun y => sm m.toNat (fun x => sm xs.length (fun k => cv (pat xs k) x y))) = m * n := by
    rw [sm_congr (g := fun y => sm xs.length (fun k => (pat xs k).w * iv (pat xs k).y (pat xs k).h y)) (fun y _ => by
      rw [sm_swap]
      refine sm_congr (fun k hk => ?_)
      obtain ⟨f0, f1, f2, f3, _⟩ := h.fit hk
      show sm m.toNat (fun x => iv (pat xs k).x (pat xs k).w x * iv (pat xs k).y (pat xs k).h y) = _
      rw [sm_mul_r, iv_len (by omega) (by omega) (by omega)])]
    rw [sm_swap, ← h.2.2.2.2]
    refine sm_congr (fun k hk => ?_)
    obtain ⟨f0, f1, f2, f3, _⟩ := h.fit hk
    rw [sm_mul, iv_len (by omega) (by omega) (by omega)]
  have hm : (m.toNat : Int) = m := by have := h.1; omega
  have hn : (n.toNat : Int) = n := by have := h.2.1; omega
  have rows := sm_all (k := n.toNat) (c := m) (f := fun y => sm m.toNat (fun x => sm xs.length (fun k => cv (pat xs k) x y))) (fun y _ => by
    have := sm_le (k := m.toNat) (c := 1) (f := fun x => sm xs.length (fun k => cv (pat xs k) x y)) (fun x _ => hle y x)
    show sm m.toNat (fun x => sm xs.length (fun k => cv (pat xs k) x y)) ≤ m
    omega) (by rw [tot, hn, Int.mul_comm]) y (by omega)
  exact sm_all (k := m.toNat) (c := 1) (f := fun x => sm xs.length (fun k => cv (pat xs k) x y)) (fun x _ => hle y x) (by rw [hm, Int.mul_one]; exact rows) x (by omega)
/-- .. and PatchAt names it. -/
theorem patL_own (h : LayOk m n xs) (x y : Nat) (hx : (x : Int) < m) (hy : (y : Int) < n) : ∃ k : Nat, k < xs.length ∧ patL m n xs x y = k ∧ ∀ j, j < xs.length → cv (pat xs j) x y = if j = k then 1 else 0 := by
  obtain ⟨k, hk, hc⟩ := sm_ex (fun i _ => cv_01 (pat xs i) x y) (one_each h x y hx hy)
  have un : ∀ j, j < xs.length → j ≠ k → cv (pat xs j) x y = 0 := fun j hj hne => by
    rcases cv_01 (pat xs j) x y with z | z
    · exact z
    · exfalso
      rcases Nat.lt_or_gt_of_ne hne with h' | h'
      · exact (h.2.2.2.1 k hk).2 j h' (cov_hit (cv_1.1 hc) (cv_1.1 z))
      · exact (h.2.2.2.1 j hj).2 k h' (cov_hit (cv_1.1 z) (cv_1.1 hc))
  refine ⟨k, hk, (patL_at (lay_yes h).symm hk (cv_1.1 hc) (fun j hj z => ?_)).symm, fun j hj => ?_⟩
  · have := un j (by omega) (by omega)
    rw [cv_1.2 z] at this; omega
  · by_cases e : j = k
    · rw [e, if_pos rfl]; exact hc
    · rw [if_neg e]; exact un j hj e
/-- How often PatchAt has named patch k behind y rows and x squares. -/
def cnt (m : Int) (p : P5) (y x : Nat) : Int := sm y (fun y' => sm m.toNat (fun x' => cv p x' y')) + sm x (fun x' => cv p x' y)
theorem cnt_zero (m : Int) (p : P5) : cnt m p 0 0 = 0 := rfl
theorem cnt_step (m : Int) (p : P5) (y x : Nat) : cnt m p y (x + 1) = cnt m p y x + cv p x y := by
  show sm y (fun y' => sm m.toNat (fun x' => cv p x' y')) + (sm x (fun x' => cv p x' y) + cv p x y) = sm y (fun y' => sm m.toNat (fun x' => cv p x' y')) + sm x (fun x' => cv p x' y) + cv p x y; omega
theorem cnt_row (m : Int) (p : P5) (y : Nat) : cnt m p (y + 1) 0 = cnt m p y m.toNat := by
  show (sm y (fun y' => sm m.toNat (fun x' => cv p x' y')) + sm m.toNat (fun x' => cv p x' y)) + 0 = sm y (fun y' => sm m.toNat (fun x' => cv p x' y')) + sm m.toNat (fun x' => cv p x' y); omega
theorem cnt_end (h : LayOk m n xs) {k : Nat} (hk : k < xs.length) : cnt m (pat xs k) n.toNat 0 = (pat xs k).w * (pat xs k).h := by
  obtain ⟨f0, f1, f2, f3, _⟩ := h.fit hk
  show sm n.toNat (fun y => sm m.toNat (fun x => iv (pat xs k).x (pat xs k).w x * iv (pat xs k).y (pat xs k).h y)) + 0 = _
  rw [sm_congr (g := fun y => (pat xs k).w * iv (pat xs k).y (pat xs k).h y) (fun y _ => by rw [sm_mul_r, iv_len (by omega) (by omega) (by omega)]), sm_mul, iv_len (by omega) (by omega) (by omega)]
  omega
theorem cnt_bd (h : LayOk m n xs) (k : Nat) : ∀ y x : Nat, x ≤ m.toNat → y ≤ 12 → 0 ≤ cnt m (pat xs k) y x ∧ cnt m (pat xs k) y x ≤ 12 * y + x := by
  have z : ∀ y x : Nat, 0 ≤ sm x (fun x' => cv (pat xs k) x' y) ∧ sm x (fun x' => cv (pat xs k) x' y) ≤ x := by
    intro y x
    induction x with
    | zero => simp [sm]
    | succ x ih =>
      have : sm (x + 1) (fun x' => cv (pat xs k) x' y) = sm x (fun x' => cv (pat xs k) x' y) + cv (pat xs k) x y := rfl
      rw [this]
      rcases cv_01 (pat xs k) x y with c | c <;> omega
  intro y x hx hy
  have hm := h.1
  have zz : ∀ y : Nat, 0 ≤ sm y (fun y' => sm m.toNat (fun x' => cv (pat xs k) x' y')) ∧ sm y (fun y' => sm m.toNat (fun x' => cv (pat xs k) x' y')) ≤ 12 * y := by
    intro y
    induction y with
    | zero => simp [sm]
    | succ y ih =>
      have : sm (y + 1) (fun y' => sm m.toNat (fun x' => cv (pat xs k) x' y')) = sm y (fun y' => sm m.toNat (fun x' => cv (pat xs k) x' y')) + sm m.toNat (fun x' => cv (pat xs k) x' y) := rfl
      rw [this]
      have := z y m.toNat
      omega
  have a := zz y
  have b := z y x
  unfold cnt; omega

end Go.Proofs.Ytlkiacgpiodkiaa
