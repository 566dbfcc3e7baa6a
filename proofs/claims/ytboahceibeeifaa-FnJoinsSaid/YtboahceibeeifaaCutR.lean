/- Rows of cuts: an element stored; a row that is owned. -/
import Derived.Test.YtboahceibeeifaaCutF
import Derived.Test.YtboahceibeeifaaBlkR
import Derived.Laws.OwnMore

set_option linter.unusedSimpArgs false
set_option linter.unusedVariables false
namespace Go.Proofs.Ytboahceibeeifaa
open Go.ChangeShapes Go.WideShapes Go.ChangeAt Go.RowKit

abbrev setCut (w : World) (g j : Nat) (v0 : Bool) (v1 : Int) : World := ((w.setCell ⟨g, j * 2, none⟩ (.bool v0)).setCell ⟨g, j * 2 + 1, none⟩ (.int .i64 v1))
theorem ElCut.set_same {w : World} {g j : Nat} {c : C2} (h : ElCut w g j c) (v0 : Bool) (v1 : Int) : ElCut (setCut w g j v0 v1) g j ⟨v0, v1⟩ := by
  obtain ⟨h0, h1⟩ := h
  refine ⟨?_, ?_⟩
  · rw [World.cell?_setCell_other _ _ _ _ (ad_ne (by omega))]
    exact World.cell?_setCell_same _ _ _ (by exact h0)
  · exact World.cell?_setCell_same _ _ _ (by rw [World.cell?_setCell_other _ _ _ _ (ad_ne (by omega))]; exact h1)
theorem ElCut.set_other {w : World} {g i j : Nat} {c : C2} (h : ElCut w g i c) (hij : i ≠ j) (v0 : Bool) (v1 : Int) : ElCut (setCut w g j v0 v1) g i c := by
  obtain ⟨h0, h1⟩ := h
  refine ⟨?_, ?_⟩
  all_goals
    rw [World.cell?_setCell_other _ _ _ _ (ad_ne (by omega)), World.cell?_setCell_other _ _ _ _ (ad_ne (by omega))]
    assumption
theorem SoftCut.set {w : World} {g i j : Nat} (h : SoftCut w g i) (v0 : Bool) (v1 : Int) : SoftCut (setCut w g j v0 v1) g i := by
  obtain ⟨h0, h1⟩ := h
  refine ⟨?_, ?_⟩
  all_goals
    rw [World.frozen?_setCell, World.frozen?_setCell]
    assumption
theorem CutIn.set {lo hi g n cap : Nat} {w : World} {xs : List C2} (h : CutIn lo hi w (.slice (some ⟨g, 0, none⟩) n cap) xs) (j : Nat) (hj : j < xs.length) (v0 : Bool) (v1 : Int) :
    CutIn lo hi (setCut w g j v0 v1) (.slice (some ⟨g, 0, none⟩) n cap) (xs.set j ⟨v0, v1⟩) := by
  obtain ⟨hl, ⟨h, _⟩ | ⟨g', cap', hv, hcp, hg, hlt, hc⟩⟩ := h
  · subst h; simp at hj
  · simp only [Value.slice.injEq, Option.some.injEq, Addr.mk.injEq, and_true] at hv
    obtain ⟨rfl, rfl, rfl⟩ := hv
    refine ⟨by simpa using hl, .inr ⟨g, cap, by simp, by simpa using hcp, hg, hlt, fun i hi => ?_⟩⟩
    rw [List.length_set] at hi
    obtain ⟨h1, h2⟩ := hc i hi
    refine ⟨?_, h2.set v0 v1⟩
    by_cases e : i = j
    · subst e
      have := h1.set_same v0 v1
      simpa [List.getD, hi] using this
    · have := h1.set_other e v0 v1
      simpa [List.getD, List.getElem?_set, e, Ne.symm e] using this

theorem ElCut.set_far {w : World} {g i : Nat} {c : C2} (h : ElCut w g i c) {p : Addr} (hp : p.block ≠ g) (x : Value) : ElCut (w.setCell p x) g i c := by
  obtain ⟨h0, h1⟩ := h
  have hn : ∀ o : Nat, p ≠ ⟨g, o, none⟩ := fun o e => hp (by rw [e])
  exact ⟨(World.cell?_setCell_other _ _ _ _ (hn _)).trans h0, (World.cell?_setCell_other _ _ _ _ (hn _)).trans h1⟩
theorem SoftCut.set_far {w : World} {g i : Nat} (h : SoftCut w g i) (p : Addr) (x : Value) : SoftCut (w.setCell p x) g i := by
  obtain ⟨h0, h1⟩ := h
  exact ⟨(World.frozen?_setCell _ _ _ _).trans h0, (World.frozen?_setCell _ _ _ _).trans h1⟩
theorem CutIn.set_far {lo hi : Nat} {w : World} {v : Value} {xs : List C2} (h : CutIn lo hi w v xs) {p : Addr} (hp : p.block < lo) (x : Value) : CutIn lo hi (w.setCell p x) v xs := by
  obtain ⟨hl, h | ⟨g, cap, hv, hcp, hg, hlt, hc⟩⟩ := h
  · exact ⟨hl, .inl h⟩
  · exact ⟨hl, .inr ⟨g, cap, hv, hcp, hg, hlt, fun i hi => ⟨(hc i hi).1.set_far (by omega) x, (hc i hi).2.set_far p x⟩⟩⟩

/-- Their places. -/
def placesCut (xs : List C2) : List Value := xs.flatMap fun c => [.bool c.up, .int .i64 c.a]
theorem placesCut_length (xs : List C2) : (placesCut xs).length = xs.length * 2 := by
  induction xs with
  | nil => rfl
  | cons c r ih => simp [placesCut] at ih ⊢; omega
theorem placesCut_at : ∀ (xs : List C2) (i : Nat), i < xs.length → (placesCut xs)[i * 2]? = some (.bool (xs.getD i C2.zero).up) ∧ (placesCut xs)[i * 2 + 1]? = some (.int .i64 (xs.getD i C2.zero).a)
  | [], i, h => by simp at h
  | c :: r, 0, _ => ⟨rfl, rfl⟩
  | c :: r, i + 1, h => by
    have ih := placesCut_at r i (by simpa using h)
    have e : placesCut (c :: r) = .bool c.up :: .int .i64 c.a :: placesCut r := rfl
    rw [e, show (i + 1) * 2 = i * 2 + 1 + 1 by omega]
    exact ih
theorem placesCut_append (xs ys : List C2) : placesCut (xs ++ ys) = placesCut xs ++ placesCut ys := by simp [placesCut]

theorem CutIn.of_owns {w : World} {base e : Nat} {v : Value} {xs : List C2} (h : w.ownsRow base e 2 v xs.length (placesCut xs)) (hl : xs.length ≤ 1048576) : CutIn base w.heap.size w v xs := by
  refine ⟨hl, ?_⟩
  have h0 := h
  obtain ⟨_, ⟨h1, h2⟩ | ⟨g, cap, cur, hv, hg, hh, hcp, _⟩⟩ := h
  · exact .inl ⟨List.length_eq_zero_iff.1 h2, none, 0, h1⟩
  · subst hv
    refine .inr ⟨g, cap, rfl, hcp, hg, lt_of_heap hh, fun i hi => ⟨?_, h0.frozenAt _, h0.frozenAt _⟩⟩
    obtain ⟨p0, p1⟩ := placesCut_at xs i hi
    exact ⟨(h0.cellAt _ (by omega)).trans p0, (h0.cellAt _ (by omega)).trans p1⟩
theorem placesCut_zero (n : Nat) : (madeCells (Value.agg #[.bool false, .int .i64 0]).cells (n * 2)).toList = placesCut (List.replicate n C2.zero) := by
  apply List.ext_getElem?
  intro i
  by_cases h : i < n * 2
  · obtain ⟨k, hk⟩ : ∃ k, i = k * 2 ∨ i = k * 2 + 1 := ⟨i / 2, by omega⟩
    have hkn : k < n := by omega
    obtain ⟨p0, p1⟩ := placesCut_at (List.replicate n C2.zero) k (by simpa using hkn)
    have ez : (List.replicate n C2.zero).getD k C2.zero = C2.zero := by simp [List.getD, hkn]
    rw [ez] at p0 p1
    rcases hk with rfl | rfl
    · rw [p0]; simp [madeCells, Value.cells, C2.zero, h]
    · rw [p1]; simp [madeCells, Value.cells, C2.zero, h]
  · rw [List.getElem?_eq_none (by simp [madeCells]; omega), List.getElem?_eq_none (by rw [placesCut_length]; simp; omega)]

end Go.Proofs.Ytboahceibeeifaa
