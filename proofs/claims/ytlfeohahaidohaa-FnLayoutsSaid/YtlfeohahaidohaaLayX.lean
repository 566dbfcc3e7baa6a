/- Layouts: what the walk of FnLayouts keeps; the counts, the sum, the turns. -/
import Derived.Test.YtlfeohahaidohaaLayH
import Derived.Test.YtlfeohahaidohaaLayN3
import Derived.Test.YtlfeohahaidohaaLayB
namespace Go.Proofs.Ytlfeohahaidohaa
open Go.ChangeShapes Go.WideShapes Go.ChangeAt Go.RowKit

/-- The layout, its box, and that nothing older has changed. -/
structure KL (w : World) (lb lo hi : Nat) (m n : Int) (v : Value) (xs : List P5) (u : World) : Prop where
  box : Tri lb (.int .i64 m) (.int .i64 n) v u
  row : PatIn lo hi u v xs
  hh : hi ≤ lb
  low : w.heap.size ≤ lo
  bel : Below w.heap.size w u
variable {w u u' : World} {lb lo hi : Nat} {m n : Int} {v : Value} {xs : List P5}
theorem KL.lt (h : KL w lb lo hi m n v xs u) : lb < u.heap.size := lt_of_cell h.box.1
theorem KL.top (h : KL w lb lo hi m n v xs u) : hi ≤ u.heap.size := by have := h.lt; have := h.hh; omega
theorem KL.keep (h : KL w lb lo hi m n v xs u) (hb : Below u.heap.size u u') : KL w lb lo hi m n v xs u' :=
  ⟨h.box.keep hb, h.row.below (hb.mono h.top), h.hh, h.low, bel_c h.bel (Nat.le_refl _) hb⟩
theorem KL.set (h : KL w lb lo hi m n v xs u) (hl : w.heap.size ≤ lb) {p : Addr} (hp : lb < p.block) (x : Value) : KL w lb lo hi m n v xs (u.setCell p x) := by
  have hw : Within p.block (p.block + 1) u (u.setCell p x) := (Within.refl _ _ _).setCell (Nat.le_refl _) (Nat.lt_succ_self _) x
  exact ⟨h.box.within hw (.inl hp), h.row.within hw (.inl (by have := h.hh; omega)) h.top, h.hh, h.low, h.bel.setCell (by omega) x⟩

/-- The counts behind y rows and x squares. -/
def CL (m : Int) (xs : List P5) (y x : Nat) : List Value := (List.range xs.length).map fun k => .int .i64 (cnt m (pat xs k) y x)
theorem CL_at {y x k : Nat} (hk : k < xs.length) : (CL m xs y x)[k]? = some (.int .i64 (cnt m (pat xs k) y x)) := by simp [CL, hk]
theorem CL_put {y x k : Nat} (hk : k < xs.length) (hc : ∀ j, j < xs.length → cv (pat xs j) x y = if j = k then 1 else 0) : (CL m xs y x).set k (.int .i64 (cnt m (pat xs k) y x + 1)) = CL m xs y (x + 1) := by
  apply List.ext_getElem?
  intro j
  by_cases hj : j < xs.length
  · rw [CL_at hj, cnt_step, hc j hj]
    by_cases e : j = k
    · subst e; rw [List.getElem?_set_self (by simpa [CL] using hk)]; simp
    · rw [List.getElem?_set_ne (Ne.symm e), CL_at hj, if_neg e, Int.add_zero]
  · rw [List.getElem?_eq_none (by simp [CL]; omega), List.getElem?_eq_none (by simp [CL]; omega)]
theorem CL_row (m : Int) (xs : List P5) (y : Nat) : CL m xs (y + 1) 0 = CL m xs y m.toNat := by
  unfold CL; exact List.map_congr_left (fun k _ => by rw [cnt_row])
theorem CL_zero (m : Int) (xs : List P5) : CL m xs 0 0 = List.replicate (xs.length * 1) (.int .i64 0) := by
  apply List.ext_getElem?
  intro j
  by_cases hj : j < xs.length
  · rw [CL_at hj, cnt_zero]; simp [hj]
  · rw [List.getElem?_eq_none (by simp [CL]; omega), List.getElem?_eq_none (by simp; omega)]

/-- The sum of the common sides so far. -/
def acc (xs : List P5) (i k : Nat) : Int := sm i (fun i' => sm i' (fun k' => comL (pat xs i') (pat xs k'))) + sm k (fun k' => comL (pat xs i) (pat xs k'))
theorem acc_step (xs : List P5) (i k : Nat) : acc xs i (k + 1) = acc xs i k + comL (pat xs i) (pat xs k) := by
  show sm i (fun i' => sm i' (fun k' => comL (pat xs i') (pat xs k'))) + (sm k (fun k' => comL (pat xs i) (pat xs k')) + comL (pat xs i) (pat xs k)) = sm i (fun i' => sm i' (fun k' => comL (pat xs i') (pat xs k'))) + sm k (fun k' => comL (pat xs i) (pat xs k')) + comL (pat xs i) (pat xs k)
  omega
theorem acc_row (xs : List P5) (i : Nat) : acc xs (i + 1) 0 = acc xs i i := by
  show (sm i (fun i' => sm i' (fun k' => comL (pat xs i') (pat xs k'))) + sm i (fun k' => comL (pat xs i) (pat xs k'))) + 0 = sm i (fun i' => sm i' (fun k' => comL (pat xs i') (pat xs k'))) + sm i (fun k' => comL (pat xs i) (pat xs k'))
  omega
theorem acc_end (h : LayOk m n xs) : acc xs xs.length 0 = seamL m n xs := by
  rw [seam_val h, ← com_sum h]
  show _ + (0 : Int) = _
  omega
theorem com_bd {p q : P5} (hp : InP p) (hq : InP q) : 0 ≤ comL p q ∧ comL p q ≤ 12 := by
  obtain ⟨⟨_, _, _⟩, _, _, _⟩ := hp
  obtain ⟨⟨_, _, _⟩, _, _, _⟩ := hq
  unfold comL besD
  simp only [decide_eq_true_eq]
  unfold cwP chP cmn
  split <;> omega
theorem sm_bd {f : Nat → Int} {c : Int} : ∀ {k : Nat}, (∀ i, i < k → 0 ≤ f i ∧ f i ≤ c) → 0 ≤ sm k f ∧ sm k f ≤ k * c
  | 0, _ => by simp [sm]
  | k + 1, h => by
    have h1 := sm_bd (k := k) (fun i hi => h i (by omega))
    have h2 := h k (by omega)
    show 0 ≤ sm k f + f k ∧ sm k f + f k ≤ ((k + 1 : Nat) : Int) * c
    rw [Int.natCast_succ, Int.add_mul, Int.one_mul]; omega
theorem acc_bd (h : LayOk m n xs) {i k : Nat} (hi : i ≤ xs.length) (hk : k ≤ xs.length) (hik : k = 0 ∨ i < xs.length) : 0 ≤ acc xs i k ∧ acc xs i k ≤ 1872 := by
  have hl := h.2.2.1.2
  have a := sm_bd (k := i) (c := 144) (f := fun i' => sm i' (fun k' => comL (pat xs i') (pat xs k'))) (fun i' hi' => by
    have := sm_bd (k := i') (c := 12) (f := fun k' => comL (pat xs i') (pat xs k')) (fun k' hk' => com_bd (inP_of h (by omega)) (inP_of h (by omega)))
    show 0 ≤ sm i' (fun k' => comL (pat xs i') (pat xs k')) ∧ sm i' (fun k' => comL (pat xs i') (pat xs k')) ≤ 144
    omega)
  have b : 0 ≤ sm k (fun k' => comL (pat xs i) (pat xs k')) ∧ sm k (fun k' => comL (pat xs i) (pat xs k')) ≤ k * 12 := by
    rcases hik with rfl | hi'
    · simp [sm]
    · exact sm_bd (fun k' hk' => com_bd (inP_of h hi') (inP_of h (by omega)))
  unfold acc
  omega

/-- Turned k times. -/
def tI (m n : Int) (xs : List P5) : Nat → Int × Int × List P5
  | 0 => (m, n, xs)
  | k + 1 => ((tI m n xs k).2.1, (tI m n xs k).1, turL (tI m n xs k).2.1 (tI m n xs k).2.2)
theorem tI_ok (h : LayOk m n xs) : ∀ k, LayOk (tI m n xs k).1 (tI m n xs k).2.1 (tI m n xs k).2.2
  | 0 => h
  | k + 1 => lay_turn (tI_ok h k)
theorem tI_four (m n : Int) (xs : List P5) : tI m n xs 4 = (m, n, xs) := by
  show (m, n, turL m (turL n (turL m (turL n xs)))) = (m, n, xs)
  rw [turn_four]

/-- The layout that is turned over and over. -/
structure TT (tb lo hi : Nat) (m n : Int) (v : Value) (xs : List P5) (u : World) : Prop where
  box : BoxL tb (.int .i64 m) (.int .i64 n) v u
  row : PatIn lo hi u v xs
  top : hi ≤ u.heap.size
theorem TT.keep {tb : Nat} (h : TT tb lo hi m n v xs u) (hb : Below u.heap.size u u') : TT tb lo hi m n v xs u' :=
  ⟨h.box.below hb h.box.lt, h.row.below (hb.mono h.top), Nat.le_trans h.top hb.size⟩
theorem BoxL.all {p : Nat} {x y z x' y' z' : Value} (h : BoxL p x y z u) : BoxL p x' y' z' (((u.setCell ⟨p, 0, none⟩ x').setCell ⟨p, 1, none⟩ y').setCell ⟨p, 2, none⟩ z') := by
  obtain ⟨h0, h1, h2, f0, f1, f2⟩ := h
  refine ⟨?_, ?_, ?_, ?_, ?_, ?_⟩
  · rw [World.cell?_setCell_other _ _ _ _ (by simp), World.cell?_setCell_other _ _ _ _ (by simp)]; exact World.cell?_setCell_same _ _ _ h0
  · rw [World.cell?_setCell_other _ _ _ _ (by simp)]; exact World.cell?_setCell_same _ _ _ ((World.cell?_setCell_other _ _ _ _ (by simp)).trans h1)
  · exact World.cell?_setCell_same _ _ _ ((World.cell?_setCell_other _ _ _ _ (by simp)).trans ((World.cell?_setCell_other _ _ _ _ (by simp)).trans h2))
  all_goals
    rw [World.frozen?_setCell, World.frozen?_setCell, World.frozen?_setCell]
    assumption
theorem TT.store {tb lo' : Nat} {m' n' : Int} {v' : Value} {ys : List P5} (h : BoxL tb (.int .i64 m) (.int .i64 n) v u) (r : PatIn lo' u.heap.size u v' ys) (hl : tb < lo') :
    TT tb lo' u.heap.size m' n' v' ys (((u.setCell ⟨tb, 0, none⟩ (.int .i64 m')).setCell ⟨tb, 1, none⟩ (.int .i64 n')).setCell ⟨tb, 2, none⟩ v') :=
  ⟨h.all, ((r.set_far (by exact hl) _).set_far (by exact hl) _).set_far (by exact hl) _, by simp [World.setCell]⟩
theorem tI_step {k : Nat} {M N : Int} {ys : List P5} (h : tI m n xs k = (M, N, ys)) : tI m n xs (k + 1) = (N, M, turL N ys) := by
  show ((tI m n xs k).2.1, (tI m n xs k).1, turL (tI m n xs k).2.1 (tI m n xs k).2.2) = _
  rw [h]
theorem tI_lay (hk : LayOk m n xs) {k : Nat} {M N : Int} {ys : List P5} (h : tI m n xs k = (M, N, ys)) : LayOk M N ys := by
  have := tI_ok hk k
  rw [h] at this
  exact this

end Go.Proofs.Ytlfeohahaidohaa
