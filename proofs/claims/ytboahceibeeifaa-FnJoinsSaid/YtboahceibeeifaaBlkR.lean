/- Rows of cells: an element stored; a row that is owned. -/
import Derived.Test.YtboahceibeeifaaBlkF
import Derived.Laws.OwnMore

set_option linter.unusedSimpArgs false
set_option linter.unusedVariables false
namespace Go.Proofs.Ytboahceibeeifaa
open Go.ChangeShapes Go.WideShapes Go.ChangeAt Go.RowKit

/-- Element j of the row at block g overwritten, place by place. -/
abbrev setEl (w : World) (g j : Nat) (s a b : Int) : World := ((w.setCell ⟨g, j * 3, none⟩ (.int .i64 s)).setCell ⟨g, j * 3 + 1, none⟩ (.int .i64 a)).setCell ⟨g, j * 3 + 2, none⟩ (.int .i64 b)

theorem ad_ne {g i j : Nat} (h : i ≠ j) : (⟨g, i, none⟩ : Addr) ≠ ⟨g, j, none⟩ := by simp
theorem El.set_same {w : World} {g j : Nat} {c : C3} (h : El w g j c) (s a b : Int) : El (setEl w g j s a b) g j ⟨s, a, b⟩ := by
  obtain ⟨h0, h1, h2⟩ := h
  refine ⟨?_, ?_, ?_⟩
  · rw [World.cell?_setCell_other _ _ _ _ (ad_ne (by omega)), World.cell?_setCell_other _ _ _ _ (ad_ne (by omega)), World.cell?_setCell_same _ _ _ h0]
  · rw [World.cell?_setCell_other _ _ _ _ (ad_ne (by omega))]
    exact World.cell?_setCell_same _ _ _ (by rw [World.cell?_setCell_other _ _ _ _ (ad_ne (by omega))]; exact h1)
  · exact World.cell?_setCell_same _ _ _ (by rw [World.cell?_setCell_other _ _ _ _ (ad_ne (by omega)), World.cell?_setCell_other _ _ _ _ (ad_ne (by omega))]; exact h2)
theorem El.set_other {w : World} {g i j : Nat} {c : C3} (h : El w g i c) (hij : i ≠ j) (s a b : Int) : El (setEl w g j s a b) g i c := by
  obtain ⟨h0, h1, h2⟩ := h
  refine ⟨?_, ?_, ?_⟩
  all_goals
    rw [World.cell?_setCell_other _ _ _ _ (ad_ne (by omega)), World.cell?_setCell_other _ _ _ _ (ad_ne (by omega)), World.cell?_setCell_other _ _ _ _ (ad_ne (by omega))]
    assumption
theorem Soft.set {w : World} {g i j : Nat} (h : Soft w g i) (s a b : Int) : Soft (setEl w g j s a b) g i := by
  obtain ⟨h0, h1, h2⟩ := h
  refine ⟨?_, ?_, ?_⟩
  all_goals
    rw [World.frozen?_setCell, World.frozen?_setCell, World.frozen?_setCell]
    assumption
theorem CellIn.set {lo hi g n cap : Nat} {w : World} {xs : List C3} (h : CellIn lo hi w (.slice (some ⟨g, 0, none⟩) n cap) xs) (j : Nat) (hj : j < xs.length) (s a b : Int) :
    CellIn lo hi (setEl w g j s a b) (.slice (some ⟨g, 0, none⟩) n cap) (xs.set j ⟨s, a, b⟩) := by
  obtain ⟨hl, ⟨h, _⟩ | ⟨g', cap', hv, hg, hlt, hc⟩⟩ := h
  · subst h; simp at hj
  · simp only [Value.slice.injEq, Option.some.injEq, Addr.mk.injEq, and_true] at hv
    obtain ⟨rfl, rfl, rfl⟩ := hv
    refine ⟨by simpa using hl, .inr ⟨g, cap, by simp, hg, hlt, fun i hi => ?_⟩⟩
    rw [List.length_set] at hi
    obtain ⟨h1, h2⟩ := hc i hi
    refine ⟨?_, h2.set s a b⟩
    by_cases e : i = j
    · subst e
      have := h1.set_same s a b
      simpa [List.getD, hi] using this
    · have := h1.set_other e s a b
      simpa [List.getD, List.getElem?_set, e, Ne.symm e] using this

theorem El.set_far {w : World} {g i : Nat} {c : C3} (h : El w g i c) {p : Addr} (hp : p.block ≠ g) (x : Value) : El (w.setCell p x) g i c := by
  obtain ⟨h0, h1, h2⟩ := h
  have hn : ∀ o : Nat, p ≠ ⟨g, o, none⟩ := fun o e => hp (by rw [e])
  exact ⟨(World.cell?_setCell_other _ _ _ _ (hn _)).trans h0, (World.cell?_setCell_other _ _ _ _ (hn _)).trans h1, (World.cell?_setCell_other _ _ _ _ (hn _)).trans h2⟩
theorem Soft.set_far {w : World} {g i : Nat} (h : Soft w g i) (p : Addr) (x : Value) : Soft (w.setCell p x) g i := by
  obtain ⟨h0, h1, h2⟩ := h
  exact ⟨(World.frozen?_setCell _ _ _ _).trans h0, (World.frozen?_setCell _ _ _ _).trans h1, (World.frozen?_setCell _ _ _ _).trans h2⟩
theorem CellIn.set_far {lo hi : Nat} {w : World} {v : Value} {xs : List C3} (h : CellIn lo hi w v xs) {p : Addr} (hp : p.block < lo) (x : Value) : CellIn lo hi (w.setCell p x) v xs := by
  obtain ⟨hl, h | ⟨g, cap, hv, hg, hlt, hc⟩⟩ := h
  · exact ⟨hl, .inl h⟩
  · exact ⟨hl, .inr ⟨g, cap, hv, hg, hlt, fun i hi => ⟨(hc i hi).1.set_far (by omega) x, (hc i hi).2.set_far p x⟩⟩⟩

/-- The places of a list of cells. -/
def places (xs : List C3) : List Value := xs.flatMap fun c => [.int .i64 c.s, .int .i64 c.a, .int .i64 c.b]
theorem places_length (xs : List C3) : (places xs).length = xs.length * 3 := by
  induction xs with
  | nil => rfl
  | cons c r ih => simp [places] at ih ⊢; omega
theorem places_at : ∀ (xs : List C3) (i : Nat), i < xs.length → (places xs)[i * 3]? = some (.int .i64 (xs.getD i C3.zero).s) ∧ (places xs)[i * 3 + 1]? = some (.int .i64 (xs.getD i C3.zero).a) ∧ (places xs)[i * 3 + 2]? = some (.int .i64 (xs.getD i C3.zero).b)
  | [], i, h => by simp at h
  | c :: r, 0, _ => ⟨rfl, rfl, rfl⟩
  | c :: r, i + 1, h => by
    have ih := places_at r i (by simpa using h)
    have e : places (c :: r) = .int .i64 c.s :: .int .i64 c.a :: .int .i64 c.b :: places r := rfl
    rw [e, show (i + 1) * 3 = i * 3 + 1 + 1 + 1 by omega]
    exact ih
theorem places_append (xs ys : List C3) : places (xs ++ ys) = places xs ++ places ys := by simp [places]

theorem lt_of_heap {w : World} {g : Nat} {o : Obj} (h : w.heap[g]? = some o) : g < w.heap.size := (Array.getElem?_eq_some_iff.1 h).1
theorem CellIn.of_owns {w : World} {base e : Nat} {v : Value} {xs : List C3} (h : w.ownsRow base e 3 v xs.length (places xs)) (hl : xs.length ≤ 1048576) : CellIn base w.heap.size w v xs := by
  refine ⟨hl, ?_⟩
  have h0 := h
  obtain ⟨_, ⟨h1, h2⟩ | ⟨g, cap, cur, hv, hg, hh, _⟩⟩ := h
  · exact .inl ⟨List.length_eq_zero_iff.1 h2, none, 0, h1⟩
  · subst hv
    refine .inr ⟨g, cap, rfl, hg, lt_of_heap hh, fun i hi => ⟨?_, h0.frozenAt _, h0.frozenAt _, h0.frozenAt _⟩⟩
    obtain ⟨p0, p1, p2⟩ := places_at xs i hi
    exact ⟨(h0.cellAt _ (by omega)).trans p0, (h0.cellAt _ (by omega)).trans p1, (h0.cellAt _ (by omega)).trans p2⟩
theorem places_zero (n : Nat) : (madeCells (Value.agg #[.int .i64 0, .int .i64 0, .int .i64 0]).cells (n * 3)).toList = places (List.replicate n C3.zero) := by
  apply List.ext_getElem?
  intro i
  by_cases h : i < n * 3
  · obtain ⟨k, hk⟩ : ∃ k, i = k * 3 ∨ i = k * 3 + 1 ∨ i = k * 3 + 2 := ⟨i / 3, by omega⟩
    have hkn : k < n := by omega
    obtain ⟨p0, p1, p2⟩ := places_at (List.replicate n C3.zero) k (by simpa using hkn)
    have ez : (List.replicate n C3.zero).getD k C3.zero = C3.zero := by simp [List.getD, hkn]
    rw [ez] at p0 p1 p2
    rcases hk with rfl | rfl | rfl
    · rw [p0]; simp [madeCells, Value.cells, C3.zero, h]
    · rw [p1]; simp [madeCells, Value.cells, C3.zero, h]
    · rw [p2]; simp [madeCells, Value.cells, C3.zero, h]
  · rw [List.getElem?_eq_none (by simp [madeCells]; omega), List.getElem?_eq_none (by rw [places_length]; simp; omega)]

end Go.Proofs.Ytboahceibeeifaa
