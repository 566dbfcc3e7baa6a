/- Rows of joins: an element stored; a row that is owned. -/
import Derived.Test.YtboahceibeeifaaJnF
import Derived.Test.YtboahceibeeifaaBlkR
import Derived.Laws.OwnMore
set_option linter.unusedSimpArgs false
set_option linter.unusedVariables false
namespace Go.Proofs.Ytboahceibeeifaa
open Go.ChangeShapes Go.WideShapes Go.ChangeAt Go.RowKit

abbrev setJn (w : World) (g j : Nat) (v0 : Bool) (v1 : Int) (v2 : Int) : World := (((w.setCell ⟨g, j * 3, none⟩ (.bool v0)).setCell ⟨g, j * 3 + 1, none⟩ (.int .i64 v1)).setCell ⟨g, j * 3 + 2, none⟩ (.int .i64 v2))
theorem ElJn.set_same {w : World} {g j : Nat} {c : J3} (h : ElJn w g j c) (v0 : Bool) (v1 : Int) (v2 : Int) : ElJn (setJn w g j v0 v1 v2) g j ⟨v0, v1, v2⟩ := by
  obtain ⟨h0, h1, h2⟩ := h
  refine ⟨?_, ?_, ?_⟩
  · rw [World.cell?_setCell_other _ _ _ _ (ad_ne (by omega)), World.cell?_setCell_other _ _ _ _ (ad_ne (by omega))]
    exact World.cell?_setCell_same _ _ _ (by exact h0)
  · rw [World.cell?_setCell_other _ _ _ _ (ad_ne (by omega))]
    exact World.cell?_setCell_same _ _ _ (by rw [World.cell?_setCell_other _ _ _ _ (ad_ne (by omega))]; exact h1)
  · exact World.cell?_setCell_same _ _ _ (by rw [World.cell?_setCell_other _ _ _ _ (ad_ne (by omega)), World.cell?_setCell_other _ _ _ _ (ad_ne (by omega))]; exact h2)
theorem ElJn.set_other {w : World} {g i j : Nat} {c : J3} (h : ElJn w g i c) (hij : i ≠ j) (v0 : Bool) (v1 : Int) (v2 : Int) : ElJn (setJn w g j v0 v1 v2) g i c := by
  obtain ⟨h0, h1, h2⟩ := h
  refine ⟨?_, ?_, ?_⟩
  all_goals
    rw [World.cell?_setCell_other _ _ _ _ (ad_ne (by omega)), World.cell?_setCell_other _ _ _ _ (ad_ne (by omega)), World.cell?_setCell_other _ _ _ _ (ad_ne (by omega))]
    assumption
theorem SoftJn.set {w : World} {g i j : Nat} (h : SoftJn w g i) (v0 : Bool) (v1 : Int) (v2 : Int) : SoftJn (setJn w g j v0 v1 v2) g i := by
  obtain ⟨h0, h1, h2⟩ := h
  refine ⟨?_, ?_, ?_⟩
  all_goals
    rw [World.frozen?_setCell, World.frozen?_setCell, World.frozen?_setCell]
    assumption
theorem JnIn.set {lo hi g n cap : Nat} {w : World} {xs : List J3} (h : JnIn lo hi w (.slice (some ⟨g, 0, none⟩) n cap) xs) (j : Nat) (hj : j < xs.length) (v0 : Bool) (v1 : Int) (v2 : Int) :
    JnIn lo hi (setJn w g j v0 v1 v2) (.slice (some ⟨g, 0, none⟩) n cap) (xs.set j ⟨v0, v1, v2⟩) := by
  obtain ⟨hl, ⟨h, _⟩ | ⟨g', cap', hv, hcp, hg, hlt, hc⟩⟩ := h
  · subst h; simp at hj
  · simp only [Value.slice.injEq, Option.some.injEq, Addr.mk.injEq, and_true] at hv
    obtain ⟨rfl, rfl, rfl⟩ := hv
    refine ⟨by simpa using hl, .inr ⟨g, cap, by simp, by simpa using hcp, hg, hlt, fun i hi => ?_⟩⟩
    rw [List.length_set] at hi
    obtain ⟨h1, h2⟩ := hc i hi
    refine ⟨?_, h2.set v0 v1 v2⟩
    by_cases e : i = j
    · subst e
      have := h1.set_same v0 v1 v2
      simpa [List.getD, hi] using this
    · have := h1.set_other e v0 v1 v2
      simpa [List.getD, List.getElem?_set, e, Ne.symm e] using this

theorem ElJn.set_far {w : World} {g i : Nat} {c : J3} (h : ElJn w g i c) {p : Addr} (hp : p.block ≠ g) (x : Value) : ElJn (w.setCell p x) g i c := by
  obtain ⟨h0, h1, h2⟩ := h
  have hn : ∀ o : Nat, p ≠ ⟨g, o, none⟩ := fun o e => hp (by rw [e])
  exact ⟨(World.cell?_setCell_other _ _ _ _ (hn _)).trans h0, (World.cell?_setCell_other _ _ _ _ (hn _)).trans h1, (World.cell?_setCell_other _ _ _ _ (hn _)).trans h2⟩
theorem SoftJn.set_far {w : World} {g i : Nat} (h : SoftJn w g i) (p : Addr) (x : Value) : SoftJn (w.setCell p x) g i := by
  obtain ⟨h0, h1, h2⟩ := h
  exact ⟨(World.frozen?_setCell _ _ _ _).trans h0, (World.frozen?_setCell _ _ _ _).trans h1, (World.frozen?_setCell _ _ _ _).trans h2⟩
theorem JnIn.set_far {lo hi : Nat} {w : World} {v : Value} {xs : List J3} (h : JnIn lo hi w v xs) {p : Addr} (hp : p.block < lo) (x : Value) : JnIn lo hi (w.setCell p x) v xs := by
  obtain ⟨hl, h | ⟨g, cap, hv, hcp, hg, hlt, hc⟩⟩ := h
  · exact ⟨hl, .inl h⟩
  · exact ⟨hl, .inr ⟨g, cap, hv, hcp, hg, hlt, fun i hi => ⟨(hc i hi).1.set_far (by omega) x, (hc i hi).2.set_far p x⟩⟩⟩

/-- Their places. -/
def placesJn (xs : List J3) : List Value := xs.flatMap fun c => [.bool c.up, .int .i64 c.a, .int .i64 c.b]
theorem placesJn_length (xs : List J3) : (placesJn xs).length = xs.length * 3 := by
  induction xs with
  | nil => rfl
  | cons c r ih => simp [placesJn] at ih ⊢; omega
theorem placesJn_at : ∀ (xs : List J3) (i : Nat), i < xs.length → (placesJn xs)[i * 3]? = some (.bool (xs.getD i J3.zero).up) ∧ (placesJn xs)[i * 3 + 1]? = some (.int .i64 (xs.getD i J3.zero).a) ∧ (placesJn xs)[i * 3 + 2]? = some (.int .i64 (xs.getD i J3.zero).b)
  | [], i, h => by simp at h
  | c :: r, 0, _ => ⟨rfl, rfl, rfl⟩
  | c :: r, i + 1, h => by
    have ih := placesJn_at r i (by simpa using h)
    have e : placesJn (c :: r) = .bool c.up :: .int .i64 c.a :: .int .i64 c.b :: placesJn r := rfl
    rw [e, show (i + 1) * 3 = i * 3 + 1 + 1 + 1 by omega]
    exact ih
theorem placesJn_append (xs ys : List J3) : placesJn (xs ++ ys) = placesJn xs ++ placesJn ys := by simp [placesJn]

theorem JnIn.of_owns {w : World} {base e : Nat} {v : Value} {xs : List J3} (h : w.ownsRow base e 3 v xs.length (placesJn xs)) (hl : xs.length ≤ 1048576) : JnIn base w.heap.size w v xs := by
  refine ⟨hl, ?_⟩
  have h0 := h
  obtain ⟨_, ⟨h1, h2⟩ | ⟨g, cap, cur, hv, hg, hh, hcp, _⟩⟩ := h
  · exact .inl ⟨List.length_eq_zero_iff.1 h2, none, 0, h1⟩
  · subst hv
    refine .inr ⟨g, cap, rfl, hcp, hg, lt_of_heap hh, fun i hi => ⟨?_, h0.frozenAt _, h0.frozenAt _, h0.frozenAt _⟩⟩
    obtain ⟨p0, p1, p2⟩ := placesJn_at xs i hi
    exact ⟨(h0.cellAt _ (by omega)).trans p0, (h0.cellAt _ (by omega)).trans p1, (h0.cellAt _ (by omega)).trans p2⟩
theorem placesJn_zero (n : Nat) : (madeCells (Value.agg #[.bool false, .int .i64 0, .int .i64 0]).cells (n * 3)).toList = placesJn (List.replicate n J3.zero) := by
  apply List.ext_getElem?
  intro i
  by_cases h : i < n * 3
  · obtain ⟨k, hk⟩ : ∃ k, i = k * 3 ∨ i = k * 3 + 1 ∨ i = k * 3 + 2 := ⟨i / 3, by omega⟩
    have hkn : k < n := by omega
    obtain ⟨p0, p1, p2⟩ := placesJn_at (List.replicate n J3.zero) k (by simpa using hkn)
    have ez : (List.replicate n J3.zero).getD k J3.zero = J3.zero := by simp [List.getD, hkn]
    rw [ez] at p0 p1 p2
    rcases hk with rfl | rfl | rfl
    · rw [p0]; simp [madeCells, Value.cells, J3.zero, h]
    · rw [p1]; simp [madeCells, Value.cells, J3.zero, h]
    · rw [p2]; simp [madeCells, Value.cells, J3.zero, h]
  · rw [List.getElem?_eq_none (by simp [madeCells]; omega), List.getElem?_eq_none (by rw [placesJn_length]; simp; omega)]

end Go.Proofs.Ytboahceibeeifaa
